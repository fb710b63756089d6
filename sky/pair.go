package sky

import "observatory/api"

const (
	side = api.Turn / api.Columns // units of a tile, in X and in Y
	half = side / 2
)

// A pair is an X and a Y, or a column and a band.
type pair [2]int

// both computes both coordinates in the same way.
func both(compute func(i int) int) pair {
	var p pair
	for i := range p {
		p[i] = compute(i)
	}
	return p
}

// unitsOf returns the X and the Y of a valid position.
func unitsOf(p api.Position) (pair, api.Errno) {
	if p.X < 0 || p.X >= api.Turn || p.Y < 0 || p.Y >= api.Bands*side {
		return pair{}, api.ErrArg
	}
	return pair{p.X, p.Y}, api.OK
}

// placeOf returns the column and the band of a tile.
func placeOf(tile int) (pair, api.Errno) {
	if tile < 0 || tile >= api.MaxTiles {
		return pair{}, api.ErrArg
	}
	return pair{tile % api.Columns, tile / api.Columns}, api.OK
}

// tileAt returns the tile of a column and a band.
func tileAt(place pair) int {
	return api.Columns*place[1] + place[0]
}

// moved returns the column and the band after some steps, which are fewer than the columns, and whether there is such a band.
func (place pair) moved(steps pair) (pair, bool) {
	to := both(func(i int) int { return place[i] + steps[i] })
	to[0] = (to[0] + api.Columns) % api.Columns
	return to, to[1] >= 0 && to[1] < api.Bands
}
