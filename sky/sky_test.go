package sky_test

import (
	"math"
	"slices"
	"testing"

	"observatory/api"
	"observatory/sky"
)

// P10.1 (J1): the first and the last positions, both sides of borders of tiles and of cells, and the examples.
func TestTileAndCell(t *testing.T) {
	for _, x := range []struct{ x, y, tile, cell int }{
		{0, 0, 0, 0}, {1, 0, 0, 0}, {0, 1, 0, 0}, {89, 0, 0, 0}, {90, 0, 0, 1}, {0, 89, 0, 0}, {0, 90, 0, 2}, {89, 89, 0, 0}, {90, 89, 0, 1}, {89, 90, 0, 2}, {90, 90, 0, 3},
		{179, 0, 0, 1}, {180, 0, 1, 0}, {269, 0, 1, 0}, {270, 0, 1, 1}, {359, 0, 1, 1}, {360, 0, 2, 0}, {0, 179, 0, 2}, {0, 180, 32, 0}, {0, 269, 32, 0}, {0, 270, 32, 2}, {0, 359, 32, 2}, {0, 360, 64, 0},
		{179, 179, 0, 3}, {180, 179, 1, 2}, {179, 180, 32, 1}, {180, 180, 33, 0}, {180, 360, 65, 0}, {180, 450, 65, 2}, {270, 449, 65, 1}, {269, 450, 65, 2}, {270, 450, 65, 3},
		{2879, 0, 15, 1}, {2880, 0, 16, 0}, {2879, 1439, 239, 3}, {2880, 1440, 272, 0}, {3000, 2000, 368, 1}, {2880, 2879, 496, 2}, {2879, 2879, 495, 3},
		{5579, 0, 30, 1}, {5580, 0, 31, 0}, {5669, 0, 31, 0}, {5670, 0, 31, 1}, {5758, 0, 31, 1}, {5759, 0, 31, 1}, {5759, 179, 31, 3}, {5759, 180, 63, 1}, {5580, 90, 31, 2},
		{0, 2699, 448, 2}, {0, 2700, 480, 0}, {0, 2789, 480, 0}, {0, 2790, 480, 2}, {0, 2878, 480, 2}, {0, 2879, 480, 2}, {179, 2879, 480, 3}, {180, 2879, 481, 2}, {90, 2700, 480, 1},
		{5759, 2699, 479, 3}, {5579, 2700, 510, 1}, {5580, 2700, 511, 0}, {5669, 2789, 511, 0}, {5670, 2789, 511, 1}, {5669, 2790, 511, 2}, {5670, 2790, 511, 3}, {5758, 2878, 511, 3}, {5759, 2879, 511, 3},
	} {
		p := api.Position{X: x.x, Y: x.y}
		if tile, err := sky.Tile(p); tile != x.tile || err != api.OK {
			t.Errorf("Tile(%v): %d, error %d; want %d", p, tile, err, x.tile)
		}
		if cell, err := sky.Cell(p); cell != x.cell || err != api.OK {
			t.Errorf("Cell(%v): %d, error %d; want %d", p, cell, err, x.cell)
		}
	}
}

// odd are numbers far away from all numbers of positions, tiles and steps, among them some that become such numbers when bits are cut off or signs are lost.
func odd() []int {
	return []int{
		math.MinInt, math.MinInt + 1, math.MinInt + 180, math.MinInt + 5760, -1<<63 + 1<<32, -1<<32 - 1, -1 << 32, -1<<32 + 1, -1<<31 - 1, -1 << 31, -65536, -5761, -5760, -5759, -2881, -2880, -2879, -5580, -2700,
		5761, 5939, 5940, 11519, 11520, 65535, 65536, 65537, 1<<31 - 1, 1 << 31, 1<<31 + 1, 1<<32 - 1, 1 << 32, 1<<32 + 1, 1<<32 + 180, math.MaxInt - 5760, math.MaxInt - 180, math.MaxInt - 1, math.MaxInt,
	}
}

// P10.1 (J1), P1: ErrArg and no tile and no cell if X, or Y, or both are negative or too great; Y is not as great as X may be, and neither goes around.
func TestNoPosition(t *testing.T) {
	numbers := append(odd(), -181, -180, -179, -91, -90, -89, -1, 0, 1, 89, 90, 179, 180, 2700, 2879, 2880, 2881, 2969, 2970, 3059, 3060, 4000, 5579, 5580, 5759, 5760)
	for _, x := range numbers {
		for _, y := range numbers {
			valid := x >= 0 && x <= 5759 && y >= 0 && y <= 2879
			p := api.Position{X: x, Y: y}
			tile, err := sky.Tile(p)
			cell, cellErr := sky.Cell(p)
			if valid && (err != api.OK || cellErr != api.OK) {
				t.Errorf("%v: tile %d, error %d; cell %d, error %d", p, tile, err, cell, cellErr)
			}
			if !valid && (tile != 0 || err != api.ErrArg || cell != 0 || cellErr != api.ErrArg) {
				t.Errorf("%v: tile %d, error %d; cell %d, error %d; want ErrArg", p, tile, err, cell, cellErr)
			}
		}
	}
}

// P10.1 (J2): the centres of the first and the last tiles of bands, and of tiles between them.
func TestCentre(t *testing.T) {
	for _, x := range [][3]int{
		{0, 90, 90}, {1, 270, 90}, {2, 450, 90}, {15, 2790, 90}, {16, 2970, 90}, {30, 5490, 90}, {31, 5670, 90}, {32, 90, 270}, {33, 270, 270}, {63, 5670, 270}, {64, 90, 450}, {65, 270, 450},
		{239, 2790, 1350}, {240, 2970, 1350}, {255, 5670, 1350}, {256, 90, 1530}, {272, 2970, 1530}, {300, 2250, 1710}, {448, 90, 2610}, {479, 5670, 2610}, {480, 90, 2790}, {481, 270, 2790}, {496, 2970, 2790}, {510, 5490, 2790}, {511, 5670, 2790},
	} {
		want := api.Position{X: x[1], Y: x[2]}
		if p, err := sky.Centre(x[0]); p != want || err != api.OK {
			t.Errorf("Centre(%d): %v, error %d; want %v", x[0], p, err, want)
		}
	}
}

// noTiles are numbers of no tile.
func noTiles() []int {
	return append(odd(), -513, -512, -511, -33, -32, -31, -2, -1, 512, 513, 543, 544, 1023, 1024, 2879, 2880, 5759, 5760)
}

// P10.1 (J2 to J4), P1: ErrArg and zero values for what is no tile, with and without other wrong arguments.
func TestNoTile(t *testing.T) {
	for _, tile := range noTiles() {
		if p, err := sky.Centre(tile); p != (api.Position{}) || err != api.ErrArg {
			t.Errorf("Centre(%d): %v, error %d", tile, p, err)
		}
		for _, other := range append(noTiles(), 0, 1, 31, 32, 272, 480, 511) {
			if d, err := sky.Distance(tile, other); d != 0 || err != api.ErrArg {
				t.Errorf("Distance(%d, %d): %d, error %d", tile, other, d, err)
			}
			if d, err := sky.Distance(other, tile); d != 0 || err != api.ErrArg {
				t.Errorf("Distance(%d, %d): %d, error %d", other, tile, d, err)
			}
		}
		for _, r := range append(noRadii(), 0, 1, 15, 16, 31) {
			if l, err := sky.Near(tile, r); len(l) != 0 || err != api.ErrArg {
				t.Errorf("Near(%d, %d): %v, error %d", tile, r, l, err)
			}
		}
	}
}

// P10.1 (J3): columns on both sides of the place where X begins anew, columns half way around, tiles whose columns or whose bands differ more, and the examples.
func TestDistance(t *testing.T) {
	for _, x := range [][3]int{
		{0, 0, 0}, {511, 511, 0}, {0, 1, 1}, {0, 2, 2}, {0, 15, 15}, {0, 16, 16}, {0, 17, 15}, {0, 30, 2}, {0, 31, 1}, {1, 31, 2}, {5, 31, 6}, {15, 31, 16}, {14, 31, 15}, {16, 31, 15}, {8, 24, 16}, {8, 25, 15}, {8, 23, 15}, {3, 20, 15},
		{0, 32, 1}, {0, 480, 15}, {31, 511, 15}, {16, 496, 15}, {32, 480, 14}, {0, 33, 1}, {0, 63, 1}, {31, 32, 1}, {31, 63, 1}, {31, 64, 2}, {31, 33, 2}, {63, 64, 1}, {63, 96, 2}, {480, 511, 1}, {479, 480, 1}, {448, 511, 1},
		{5, 3*32 + 7, 3}, {5, 2*32 + 8, 3}, {5, 3*32 + 8, 3}, {5, 2*32 + 31, 6}, {5, 7*32 + 31, 7}, {0, 15*32 + 15, 15}, {0, 15*32 + 16, 16}, {0, 15*32 + 17, 15}, {0, 511, 15}, {31, 480, 15}, {16, 480, 16}, {0, 14*32 + 15, 15}, {0, 14*32 + 16, 16}, {0, 14*32 + 18, 14}, {7*32 + 1, 8*32 + 30, 3},
	} {
		for _, ends := range [][2]int{{x[0], x[1]}, {x[1], x[0]}} {
			if d, err := sky.Distance(ends[0], ends[1]); d != x[2] || err != api.OK {
				t.Errorf("Distance(%d, %d): %d, error %d; want %d", ends[0], ends[1], d, err, x[2])
			}
		}
	}
}

// P10.1 (J4): few steps from tiles of the first, the last and middle bands and columns, in increasing order, and the example.
func TestNear(t *testing.T) {
	for _, x := range []struct {
		tile, r int
		want    []int
	}{
		{0, 0, []int{0}}, {31, 0, []int{31}}, {272, 0, []int{272}}, {480, 0, []int{480}}, {511, 0, []int{511}},
		{0, 1, []int{0, 1, 31, 32, 33, 63}}, {31, 1, []int{0, 30, 31, 32, 62, 63}}, {16, 1, []int{15, 16, 17, 47, 48, 49}}, {1, 1, []int{0, 1, 2, 32, 33, 34}}, {30, 1, []int{29, 30, 31, 61, 62, 63}},
		{480, 1, []int{448, 449, 479, 480, 481, 511}}, {511, 1, []int{448, 478, 479, 480, 510, 511}}, {496, 1, []int{463, 464, 465, 495, 496, 497}},
		{32, 1, []int{0, 1, 31, 32, 33, 63, 64, 65, 95}}, {63, 1, []int{0, 30, 31, 32, 62, 63, 64, 94, 95}}, {65, 1, []int{32, 33, 34, 64, 65, 66, 96, 97, 98}}, {272, 1, []int{239, 240, 241, 271, 272, 273, 303, 304, 305}}, {448, 1, []int{416, 417, 447, 448, 449, 479, 480, 481, 511}}, {479, 1, []int{416, 446, 447, 448, 478, 479, 480, 510, 511}},
		{0, 2, []int{0, 1, 2, 30, 31, 32, 33, 34, 62, 63, 64, 65, 66, 94, 95}}, {510, 2, []int{416, 444, 445, 446, 447, 448, 476, 477, 478, 479, 480, 508, 509, 510, 511}},
	} {
		if l, err := sky.Near(x.tile, x.r); !slices.Equal(l, x.want) || err != api.OK {
			t.Errorf("Near(%d, %d): %v, error %d; want %v", x.tile, x.r, l, err, x.want)
		}
	}
}

// P10.1 (J4), P10.5: with r 15 just the column half way around is missing, and with greater ones nothing but bands that are further away, of which there are none.
func TestNearWithGreatRadii(t *testing.T) {
	for _, x := range []struct{ tile, missing int }{{0, 16}, {31, 15}, {16, 0}, {15, 31}, {272, 0}, {239, 31}, {480, 16}, {496, 0}, {511, 15}} {
		var all, most []int
		for tile := range 512 {
			all = append(all, tile)
			if tile%32 != x.missing {
				most = append(most, tile)
			}
		}
		for r, want := range map[int][]int{15: most, 16: all, 17: all, 30: all, 31: all} {
			if l, err := sky.Near(x.tile, r); !slices.Equal(l, want) || err != api.OK {
				t.Errorf("Near(%d, %d): %v, error %d; want %v", x.tile, r, l, err, want)
			}
		}
	}
}

// noRadii are numbers that Near does not accept as r.
func noRadii() []int {
	return append(odd(), -32, -31, -16, -2, -1, 32, 33, 63, 64, 511, 512)
}

// P10.1 (J4), P1: ErrArg and no tiles if r is negative or greater than 31.
func TestNearWithNoRadius(t *testing.T) {
	for _, r := range noRadii() {
		for _, tile := range []int{0, 1, 16, 31, 32, 272, 480, 511} {
			if l, err := sky.Near(tile, r); len(l) != 0 || err != api.ErrArg {
				t.Errorf("Near(%d, %d): %v, error %d", tile, r, l, err)
			}
		}
	}
}
