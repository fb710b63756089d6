package sky_test

import (
	"fmt"
	"math/rand"
	"slices"
	"sync"
	"testing"

	"observatory/api"
	"observatory/sky"
)

// tileOf returns the tile of a position, which must be valid.
func tileOf(t *testing.T, p api.Position) int {
	tile, err := sky.Tile(p)
	if err != api.OK || tile < 0 || tile > 511 {
		t.Fatalf("Tile(%v): %d, error %d", p, tile, err)
	}
	return tile
}

// cellOf returns the cell of a position, which must be valid.
func cellOf(t *testing.T, p api.Position) int {
	cell, err := sky.Cell(p)
	if err != api.OK || cell < 0 || cell > 3 {
		t.Fatalf("Cell(%v): %d, error %d", p, cell, err)
	}
	return cell
}

// centreOf returns the centre of a tile, which must be one.
func centreOf(t *testing.T, tile int) api.Position {
	t.Helper()
	p, err := sky.Centre(tile)
	if err != api.OK {
		t.Fatalf("Centre(%d): %v, error %d", tile, p, err)
	}
	return p
}

// nearTiles returns the tiles near a tile, which must be one.
func nearTiles(t *testing.T, tile, r int) []int {
	t.Helper()
	l, err := sky.Near(tile, r)
	if err != api.OK {
		t.Fatalf("Near(%d, %d): %v, error %d", tile, r, l, err)
	}
	return l
}

// allDistances returns the distances of all tiles from all tiles, as Distance returns them.
func allDistances(t *testing.T) *[512][512]int {
	t.Helper()
	var all [512][512]int
	for a := range all {
		for b := range all[a] {
			d, err := sky.Distance(a, b)
			if err != api.OK {
				t.Fatalf("Distance(%d, %d): %d, error %d", a, b, d, err)
			}
			all[a][b] = d
		}
	}
	return &all
}

// walks returns from each tile the least numbers of steps to all tiles, where a step goes to any of some neighbours of a tile; -1 where no steps lead.
func walks(neighbours func(tile int) []int) *[512][512]int {
	var next [512][]int
	for tile := range next {
		next[tile] = neighbours(tile)
	}
	var all [512][512]int
	for from := range all {
		for to := range all[from] {
			all[from][to] = -1
		}
		all[from][from] = 0
		for queue := []int{from}; len(queue) > 0; queue = queue[1:] {
			for _, to := range next[queue[0]] {
				if all[from][to] < 0 {
					all[from][to] = all[from][queue[0]] + 1
					queue = append(queue, to)
				}
			}
		}
	}
	return &all
}

// around returns the tiles that touch a tile with a side or a corner, found by looking into its sky at the place of each.
func around(tile int) []int {
	var l []int
	x, y := tile%32*180, tile/32*180
	for _, dy := range []int{-180, 0, 180} {
		for _, dx := range []int{-180, 0, 180} {
			if (dx != 0 || dy != 0) && y+dy >= 0 && y+dy < 2880 {
				l = append(l, (y+dy)/180*32+(x+dx+5760)%5760/180)
			}
		}
	}
	return l
}

// everyPosition calls visit with all positions, tile by tile and cell by cell, and with the tile and the cell that have been counted up to there.
func everyPosition(visit func(p api.Position, tile, cell int)) {
	for tile := range 512 {
		left, top := 0, 0
		for range tile / 32 {
			top += 180
		}
		for range tile % 32 {
			left += 180
		}
		for cell, corner := range [4][2]int{{0, 0}, {90, 0}, {0, 90}, {90, 90}} {
			for dy := range 90 {
				for dx := range 90 {
					visit(api.Position{X: left + corner[0] + dx, Y: top + corner[1] + dy}, tile, cell)
				}
			}
		}
	}
}

// P10.1 (J1), P10.2, P10.3: the tiles and cells of all positions.
func TestAllPositions(t *testing.T) {
	count := 0
	everyPosition(func(p api.Position, tile, cell int) {
		if got := tileOf(t, p); got != tile {
			t.Fatalf("Tile(%v): %d; want %d", p, got, tile)
		}
		if got := cellOf(t, p); got != cell {
			t.Fatalf("Cell(%v): %d; want %d", p, got, cell)
		}
		count++
	})
	if count != 5760*2880 {
		t.Fatalf("%d positions", count)
	}
}

// somePositions returns positions on both sides of all borders of tiles and cells, the corners, and others.
func somePositions() []api.Position {
	var all []api.Position
	source := rand.New(rand.NewSource(1))
	for i := range 64 {
		for j := range 32 {
			x, y := 90*i, 90*j
			all = append(all, api.Position{X: x, Y: y}, api.Position{X: x + 89, Y: y}, api.Position{X: x, Y: y + 89}, api.Position{X: x + 89, Y: y + 89}, api.Position{X: x + source.Intn(90), Y: y + source.Intn(90)})
		}
	}
	return all
}

// P10.2: a position that is moved by whole tiles is moved by as many columns and bands, and stays in the same cell.
func TestMovedByWholeTiles(t *testing.T) {
	for _, p := range somePositions() {
		tile, cell := tileOf(t, p), cellOf(t, p)
		for down := -p.Y / 180; p.Y+180*down < 2880; down++ {
			for right := -p.X / 180; p.X+180*right < 5760; right++ {
				q := api.Position{X: p.X + 180*right, Y: p.Y + 180*down}
				if got := tileOf(t, q); got != tile+32*down+right {
					t.Fatalf("%v is in tile %d, but %v in %d", p, tile, q, got)
				}
				if got := cellOf(t, q); got != cell {
					t.Fatalf("%v is in cell %d, but %v in %d", p, cell, q, got)
				}
			}
		}
	}
}

// P10.2: two positions of one tile differ by less than 180 in X and in Y, and each tile has 180 times 180 positions.
func TestPositionsOfOneTile(t *testing.T) {
	type area struct{ count, left, right, top, bottom int }
	var areas [512]area
	for i := range areas {
		areas[i] = area{0, 5760, -1, 2880, -1}
	}
	for y := range 2880 {
		for x := range 5760 {
			a := &areas[tileOf(t, api.Position{X: x, Y: y})]
			*a = area{a.count + 1, min(a.left, x), max(a.right, x), min(a.top, y), max(a.bottom, y)}
		}
	}
	for tile, a := range areas {
		if a.count != 180*180 || a.right-a.left >= 180 || a.bottom-a.top >= 180 {
			t.Errorf("tile %d: %+v", tile, a)
		}
	}
}

// P10.3: the cell tells whether X and Y are less than those of the centre of the tile.
func TestCellsAndCentres(t *testing.T) {
	var centres [512]api.Position
	for tile := range centres {
		centres[tile] = centreOf(t, tile)
	}
	for y := range 2880 {
		for x := range 5760 {
			p := api.Position{X: x, Y: y}
			centre, want := centres[tileOf(t, p)], 0
			if x >= centre.X {
				want++
			}
			if y >= centre.Y {
				want += 2
			}
			if got := cellOf(t, p); got != want {
				t.Fatalf("Cell(%v): %d; want %d, as the centre is %v", p, got, want, centre)
			}
		}
	}
}

// P10.1 (J2), P10.2, P10.3: the centres of all tiles are in their tiles and in cell 3, and 90 units behind their first positions.
func TestAllCentres(t *testing.T) {
	for tile := range 512 {
		p := centreOf(t, tile)
		if got := tileOf(t, p); got != tile {
			t.Errorf("the centre %v of tile %d is in tile %d", p, tile, got)
		}
		if cell := cellOf(t, p); cell != 3 {
			t.Errorf("the centre %v of tile %d is in cell %d", p, tile, cell)
		}
		first := api.Position{X: p.X - 90, Y: p.Y - 90}
		if got := tileOf(t, first); got != tile || first.X%180 != 0 || first.Y%180 != 0 {
			t.Errorf("the centre of tile %d is %v, but %v is in tile %d", tile, p, first, got)
		}
		for cell, q := range []api.Position{{X: p.X - 1, Y: p.Y - 1}, {X: p.X, Y: p.Y - 1}, {X: p.X - 1, Y: p.Y}} {
			if got := cellOf(t, q); got != cell || tileOf(t, q) != tile {
				t.Errorf("%v beside the centre of tile %d is in cell %d of tile %d", q, tile, got, tileOf(t, q))
			}
		}
	}
}

// P10.1 (J3), P10.7: the distances of all tiles are the least numbers of steps to tiles that touch each other.
func TestDistancesAreSteps(t *testing.T) {
	distances, steps := allDistances(t), walks(around)
	for a := range distances {
		for b, d := range distances[a] {
			if d != steps[a][b] {
				t.Fatalf("Distance(%d, %d): %d; want %d", a, b, d, steps[a][b])
			}
		}
	}
}

// P10.7: over tiles at the distance 1, from one to the next, one comes from each tile to each other one by as many steps as their distance.
func TestStepsOfDistanceOne(t *testing.T) {
	distances := allDistances(t)
	steps := walks(func(tile int) []int {
		var l []int
		for other, d := range distances[tile] {
			if d == 1 {
				l = append(l, other)
			}
		}
		return l
	})
	for a := range distances {
		for b, d := range distances[a] {
			if d != steps[a][b] {
				t.Fatalf("Distance(%d, %d): %d; but %d steps lead there", a, b, d, steps[a][b])
			}
		}
	}
}

// P10.7: from each tile there is a step to the distance 1 that brings it nearer to another one.
func TestNearerByOneStep(t *testing.T) {
	distances := allDistances(t)
	for a := range distances {
		near := nearTiles(t, a, 1)
		for b, d := range distances[a] {
			nearer := func(tile int) bool { return distances[a][tile] == 1 && distances[tile][b] == d-1 }
			if a != b && !slices.ContainsFunc(near, nearer) {
				t.Fatalf("none of %v is nearer to %d than %d", near, b, a)
			}
		}
	}
}

// P10.4: distances are the same in both directions, 0 just for a tile and itself, and from 0 to 16, and there is a tile at the distance 16 from each.
func TestDistancesInBothDirections(t *testing.T) {
	distances := allDistances(t)
	for a := range distances {
		for b, d := range distances[a] {
			if d != distances[b][a] || (d == 0) != (a == b) || d < 0 || d > 16 {
				t.Fatalf("Distance(%d, %d): %d; Distance(%d, %d): %d", a, b, d, b, a, distances[b][a])
			}
		}
		if slices.Max(distances[a][:]) != 16 {
			t.Errorf("no tile is 16 away from %d", a)
		}
	}
}

// P10.4: no way over a third tile is shorter.
func TestDistancesOverAThirdTile(t *testing.T) {
	distances := allDistances(t)
	for a := range distances {
		for b := range distances {
			for c := range distances {
				if distances[a][c] > distances[a][b]+distances[b][c] {
					t.Fatalf("from %d to %d: %d; over %d: %d and %d", a, c, distances[a][c], b, distances[a][b], distances[b][c])
				}
			}
		}
	}
}

// P10.6: moving two tiles by the same number of columns, around the sky, does not change their distance; nor does turning the sky over.
func TestDistancesAroundTheSky(t *testing.T) {
	distances := allDistances(t)
	for a := range distances {
		for b, d := range distances[a] {
			for columns := range 32 {
				c, e := a/32*32+(a+columns)%32, b/32*32+(b+columns)%32
				if distances[c][e] != d {
					t.Fatalf("from %d to %d: %d; %d columns later, from %d to %d: %d", a, b, d, columns, c, e, distances[c][e])
				}
			}
			if over := distances[511-a][511-b]; over != d {
				t.Fatalf("from %d to %d: %d; from %d to %d: %d", a, b, d, 511-a, 511-b, over)
			}
		}
	}
}

// P10.1 (J4), P10.5: for all tiles and all r, Near has just the tiles whose distance is at most r, in increasing order.
func TestAllNear(t *testing.T) {
	distances, steps := allDistances(t), walks(around)
	for tile := range distances {
		for r := range 32 {
			var byDistance, bySteps []int
			for other, d := range distances[tile] {
				if d <= r {
					byDistance = append(byDistance, other)
				}
				if steps[tile][other] <= r {
					bySteps = append(bySteps, other)
				}
			}
			if l := nearTiles(t, tile, r); !slices.Equal(l, byDistance) || !slices.Equal(l, bySteps) {
				t.Fatalf("Near(%d, %d): %v; want %v", tile, r, l, byDistance)
			}
		}
	}
}

// P10.5: there are as many near tiles as the product of the numbers of columns and of bands that are at most r away.
func TestNumbersOfNear(t *testing.T) {
	for tile := range 512 {
		for r := range 32 {
			columns, bands := 0, 0
			for n := range 32 {
				// Some column is reached to the right by n steps, or to the left by 32 - n.
				if n <= r || 32-n <= r {
					columns++
				}
				if n < 16 && n-tile/32 <= r && tile/32-n <= r {
					bands++
				}
			}
			if l := nearTiles(t, tile, r); len(l) != columns*bands {
				t.Fatalf("Near(%d, %d) has %d tiles; want %d times %d", tile, r, len(l), columns, bands)
			}
		}
	}
}

// P10.5, P10.6: the tiles that are near a tile are those near the first tile of its band, moved by its column.
func TestNearAroundTheSky(t *testing.T) {
	for tile := range 512 {
		for r := range 32 {
			var want []int
			for _, other := range nearTiles(t, tile/32*32, r) {
				want = append(want, other/32*32+(other+tile)%32)
			}
			slices.Sort(want)
			if l := nearTiles(t, tile, r); !slices.Equal(l, want) {
				t.Fatalf("Near(%d, %d): %v; want %v", tile, r, l, want)
			}
		}
	}
}

// P3: what has been returned is not changed by later calls, nor are later results by changes to it.
func TestNearReturnsNewMemory(t *testing.T) {
	kept := nearTiles(t, 0, 1)
	want := []int{0, 1, 31, 32, 33, 63}
	for tile := range 512 {
		nearTiles(t, tile, 31)
		nearTiles(t, tile, 1)
	}
	if !slices.Equal(kept, want) {
		t.Errorf("the result has become %v", kept)
	}
	kept = append(kept[:0], 7, 7, 7, 7, 7, 7)
	if l := nearTiles(t, 0, 1); !slices.Equal(l, want) {
		t.Errorf("%v after the change to %v", l, kept)
	}
}

// answers are the results of all functions for some arguments.
type answers struct {
	tile, cell, distance int
	centre               api.Position
	near                 string
	errors               [5]api.Errno
}

func ask(p api.Position, a, b, r int) answers {
	var x answers
	x.tile, x.errors[0] = sky.Tile(p)
	x.cell, x.errors[1] = sky.Cell(p)
	x.centre, x.errors[2] = sky.Centre(a)
	x.distance, x.errors[3] = sky.Distance(a, b)
	near, err := sky.Near(a, r)
	x.near, x.errors[4] = fmt.Sprint(near), err
	return x
}

// P3: equal arguments yield equal results, whatever was called before, and in several goroutines at once.
func TestEqualArgumentsEqualResults(t *testing.T) {
	type question struct {
		p       api.Position
		a, b, r int
	}
	source := rand.New(rand.NewSource(2))
	questions := make([]question, 2000)
	want := make([]answers, len(questions))
	for i := range questions {
		questions[i] = question{api.Position{X: source.Intn(6000) - 100, Y: source.Intn(3000) - 50}, source.Intn(532) - 10, source.Intn(532) - 10, source.Intn(36) - 2}
		want[i] = ask(questions[i].p, questions[i].a, questions[i].b, questions[i].r)
	}
	var group sync.WaitGroup
	for worker := range 8 {
		group.Go(func() {
			for _, i := range rand.New(rand.NewSource(int64(worker))).Perm(len(questions)) {
				if got := ask(questions[i].p, questions[i].a, questions[i].b, questions[i].r); got != want[i] {
					t.Errorf("%+v: %+v; before: %+v", questions[i], got, want[i])
				}
			}
		})
	}
	group.Wait()
}
