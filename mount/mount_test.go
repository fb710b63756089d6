package mount_test

import (
	"math"
	"slices"
	"testing"

	"observatory/api"
	"observatory/mount"
)

// far are numbers far away from all positions and columns, among them some that become such numbers when bits are cut off or signs are lost.
func far() []int {
	return []int{
		math.MinInt, math.MinInt + 1, math.MinInt + 16, math.MinInt + 32, math.MinInt + 48, math.MinInt + 49, -1<<32 - 1, -1 << 32, -1<<32 + 16, -1 << 31, -1 << 16, -32768, -256, -240,
		240, 256, 272, 32767, 65536, 1<<31 - 1, 1 << 31, 1<<32 - 1, 1 << 32, 1<<32 + 16, math.MaxInt - 48, math.MaxInt - 32, math.MaxInt - 16, math.MaxInt - 1, math.MaxInt,
	}
}

func noPositions() []int {
	return append(far(), -97, -96, -81, -80, -65, -64, -63, -51, -50, -49, 49, 50, 51, 63, 64, 65, 80, 81, 96, 97)
}

func noColumns() []int {
	return append(far(), -97, -96, -80, -64, -49, -48, -33, -32, -31, -17, -16, -2, -1, 32, 33, 47, 48, 49, 63, 64, 80, 96, 97)
}

// times returns a list of numbers several times.
func times(n int, l ...int) []int {
	return slices.Repeat(l, n)
}

// P13.1 (M1), P13.2: the first and the last columns, those around the one with four positions, and the examples.
func TestReach(t *testing.T) {
	for _, x := range []struct {
		column int
		want   []int
	}{
		{0, []int{-32, 0, 32}}, {1, []int{-31, 1, 33}}, {2, []int{-30, 2, 34}}, {8, []int{-24, 8, 40}}, {14, []int{-18, 14, 46}}, {15, []int{-17, 15, 47}},
		{16, []int{-48, -16, 16, 48}}, {17, []int{-47, -15, 17}}, {18, []int{-46, -14, 18}}, {24, []int{-40, -8, 24}}, {30, []int{-34, -2, 30}}, {31, []int{-33, -1, 31}},
	} {
		if l, err := mount.Reach(x.column); !slices.Equal(l, x.want) || err != api.OK {
			t.Errorf("Reach(%d): %v, error %d; want %v", x.column, l, err, x.want)
		}
	}
}

// P13.1 (M1), P1: ErrArg and no positions if there is no such column.
func TestReachOfNoColumn(t *testing.T) {
	for _, column := range noColumns() {
		if l, err := mount.Reach(column); len(l) != 0 || err != api.ErrArg {
			t.Errorf("Reach(%d): %v, error %d", column, l, err)
		}
	}
}

// P13.1 (M2), P13.3: moves from the ends of the cable wrap, beside them and in the middle, also where two positions are the nearest ones, where the nearest one around the circle is beyond the wrap, and the examples.
func TestMove(t *testing.T) {
	for _, x := range [][4]int{
		{0, 0, 0, 0}, {0, 1, 1, 1}, {0, 15, 15, 15}, {0, 16, -16, 16}, {0, 17, -15, 15}, {0, 31, -1, 1}, {5, 5, 5, 0}, {-27, 5, -27, 0}, {37, 5, 37, 0}, {-40, 5, -27, 13}, {40, 17, 17, 23},
		{16, 0, 0, 16}, {-16, 0, -32, 16}, {16, 16, 16, 0}, {-16, 16, -16, 0}, {16, 1, 1, 15}, {16, 31, 31, 15}, {-16, 1, -31, 15}, {-16, 31, -1, 15}, {32, 16, 16, 16}, {-32, 16, -48, 16}, {31, 15, 15, 16}, {30, 14, 14, 16}, {-31, 17, -47, 16},
		{48, 16, 48, 0}, {48, 15, 47, 1}, {48, 31, 31, 17}, {48, 0, 32, 16}, {48, 1, 33, 15}, {48, 17, 17, 31}, {48, 18, 18, 30}, {47, 15, 47, 0}, {47, 16, 48, 1}, {47, 17, 17, 30}, {47, 0, 32, 15}, {47, 31, 31, 16}, {47, 14, 46, 1},
		{-48, 16, -48, 0}, {-48, 17, -47, 1}, {-48, 1, -31, 17}, {-48, 0, -32, 16}, {-48, 31, -33, 15}, {-48, 15, -17, 31}, {-48, 14, -18, 30}, {-47, 17, -47, 0}, {-47, 16, -48, 1}, {-47, 15, -17, 30}, {-47, 0, -32, 15}, {-47, 1, -31, 16}, {-47, 18, -46, 1},
	} {
		if to, distance, err := mount.Move(x[0], x[1]); to != x[2] || distance != x[3] || err != api.OK {
			t.Errorf("Move(%d, %d): %d, %d, error %d; want %d, %d", x[0], x[1], to, distance, err, x[2], x[3])
		}
	}
}

// P13.1 (M2), P1: ErrArg and zeros if there is no such position, or no such column, or neither.
func TestMoveOfNoPositionOrColumn(t *testing.T) {
	check := func(at, column int) {
		if to, distance, err := mount.Move(at, column); to != 0 || distance != 0 || err != api.ErrArg {
			t.Errorf("Move(%d, %d): %d, %d, error %d", at, column, to, distance, err)
		}
	}
	for _, at := range noPositions() {
		for column := range 32 {
			check(at, column)
		}
		for _, column := range noColumns() {
			check(at, column)
		}
	}
	for at := -48; at <= 48; at++ {
		for _, column := range noColumns() {
			check(at, column)
		}
	}
}

// A known has a position, columns and the way through them with its length, which a second program found among all ways.
type known struct {
	at      int
	columns []int
	way     []int
	length  int
}

func (x known) check(t *testing.T) {
	t.Helper()
	if way, length, err := mount.Plan(x.at, x.columns); !slices.Equal(way, x.way) || length != x.length || err != api.OK {
		t.Errorf("Plan(%d, %v): %v, %d, error %d; want %v, %d", x.at, x.columns, way, length, err, x.way, x.length)
	}
}

// P13.1 (M3), P13.4, P13.8: plans through no columns, one column, the column where the mount is, the same column several times, and the examples.
func TestPlanThroughFewColumns(t *testing.T) {
	for _, x := range []known{
		{0, nil, nil, 0}, {0, []int{}, nil, 0}, {48, nil, nil, 0}, {-48, nil, nil, 0}, {47, []int{}, nil, 0},
		{0, []int{0}, []int{0}, 0}, {0, []int{31}, []int{-1}, 1}, {0, []int{1}, []int{1}, 1}, {0, []int{15}, []int{15}, 15}, {0, []int{16}, []int{-16}, 16}, {0, []int{17}, []int{-15}, 15}, {16, []int{0}, []int{0}, 16}, {-16, []int{0}, []int{-32}, 16},
		{48, []int{16}, []int{48}, 0}, {-48, []int{16}, []int{-48}, 0}, {48, []int{17}, []int{17}, 31}, {-48, []int{15}, []int{-17}, 31}, {47, []int{17}, []int{17}, 30}, {-47, []int{15}, []int{-17}, 30}, {40, []int{17}, []int{17}, 23},
		{5, []int{5}, []int{5}, 0}, {5, []int{5, 5, 5}, []int{5, 5, 5}, 0}, {-32, []int{0, 0}, []int{-32, -32}, 0}, {32, []int{0, 0}, []int{32, 32}, 0}, {48, []int{16, 16}, []int{48, 48}, 0}, {-48, []int{16, 16}, []int{-48, -48}, 0}, {0, []int{16, 16}, []int{-16, -16}, 16},
		{0, []int{16, 17}, []int{-16, -15}, 17}, {0, []int{16, 15}, []int{-16, -17}, 17}, {0, []int{16, 15, 20}, []int{-16, -17, -12}, 22}, {0, []int{15, 16, 17}, []int{15, 16, 17}, 17}, {0, []int{17, 16, 15}, []int{-15, -16, -17}, 17},
	} {
		x.check(t)
	}
}

// P13.4: plans around the circle, to the ends of the cable wrap and back, and those where the cables have to be unwound.
func TestPlanToTheEndsOfTheWrap(t *testing.T) {
	for _, x := range []known{
		{48, []int{17, 18}, []int{17, 18}, 32}, {-48, []int{15, 14}, []int{-17, -18}, 32}, {48, []int{16, 17, 16}, []int{48, 17, 16}, 32}, {-48, []int{16, 15, 16}, []int{-48, -17, -16}, 32}, {48, []int{17, 16, 17}, []int{17, 16, 17}, 33}, {-48, []int{15, 16, 15}, []int{-17, -16, -17}, 33},
		{0, []int{8, 16, 24, 0, 8, 16}, []int{8, 16, 24, 32, 40, 48}, 48}, {0, []int{24, 16, 8, 0, 24, 16}, []int{-8, -16, -24, -32, -40, -48}, 48},
		{0, []int{8, 16, 24, 0, 8, 16, 24}, []int{-24, -16, -8, 0, 8, 16, 24}, 72}, {0, []int{24, 16, 8, 0, 24, 16, 8}, []int{-8, -16, -24, -32, -40, -48, -24}, 72},
		{0, []int{10, 20, 30, 8, 16}, []int{10, 20, 30, 40, 48}, 48}, {0, []int{10, 20, 30, 8, 17}, []int{-22, -12, -2, 8, 17}, 61}, {0, []int{10, 20, 30, 8}, []int{10, 20, 30, 40}, 40},
		{30, []int{10, 25, 8}, []int{42, 25, 40}, 44}, {40, []int{12, 17}, []int{44, 17}, 31}, {0, []int{22, 12, 2, 24}, []int{-10, -20, -30, -40}, 40}, {0, []int{22, 12, 2, 24, 14}, []int{-10, -20, -30, -40, -18}, 62},
	} {
		x.check(t)
	}
}

// P13.4: plans that are shorter than to move to the nearest position each time, with a first move that is not to the nearest one, and with a later one.
func TestPlanNotToTheNearest(t *testing.T) {
	for _, x := range []known{
		{33, []int{16, 22}, []int{16, 22}, 23}, {23, []int{4, 15, 22}, []int{4, 15, 22}, 37}, {-31, []int{18, 28, 14, 20}, []int{-14, -4, -18, -12}, 47}, {-27, []int{26, 18, 9, 25, 23}, []int{-6, -14, -23, -39, -41}, 56}, {-31, []int{22, 15, 21, 30, 26, 29}, []int{-10, -17, -11, -2, -6, -3}, 50},
		{-24, []int{1, 19, 7}, []int{-31, -13, -25}, 37}, {-44, []int{2, 22, 12, 28}, []int{-30, -10, -20, -36}, 60}, {-36, []int{28, 24, 18, 13, 15}, []int{-36, -40, -14, -19, -17}, 37}, {-16, []int{4, 21, 7, 26, 17, 18}, []int{-28, -11, -25, -38, -47, -46}, 66},
	} {
		x.check(t)
		nearest := known{at: x.at}
		for _, column := range x.columns {
			nearest = nearest.moved(t, column)
		}
		if nearest.length <= x.length {
			t.Errorf("from %d through %v by the nearest positions: %v, %d; %d is no less", x.at, x.columns, nearest.way, nearest.length, x.length)
		}
	}
}

// moved returns a way with a further move to the nearest position of a column.
func (x known) moved(t *testing.T, column int) known {
	t.Helper()
	at := x.at
	if len(x.way) > 0 {
		at = x.way[len(x.way)-1]
	}
	to, distance, err := mount.Move(at, column)
	if err != api.OK {
		t.Fatalf("Move(%d, %d): error %d", at, column, err)
	}
	return known{x.at, append(x.columns, column), append(x.way, to), x.length + distance}
}

// P13.1 (M3), P13.4: plans with several ways of the least length that differ in the first position alone, in one or two in the middle, in the last one, and in most or all of them.
func TestPlanWithSeveralWays(t *testing.T) {
	for _, x := range []known{
		{47, []int{16, 17}, []int{16, 17}, 32}, {-40, []int{16, 8, 8}, []int{-48, -24, -24}, 32}, {-40, []int{16, 8, 16, 8}, []int{-48, -24, -16, -24}, 48}, {43, []int{16, 21, 0, 8, 24}, []int{16, 21, 32, 40, 24}, 67},
		{41, []int{24, 7, 22}, []int{24, 7, 22}, 49}, {35, []int{8, 16, 24, 24}, []int{40, 16, 24, 24}, 37}, {-44, []int{29, 24, 16, 8}, []int{-35, -40, -48, -24}, 46}, {-46, []int{24, 24, 16, 8, 8}, []int{-40, -40, -48, -24, -24}, 38}, {42, []int{8, 16, 16, 24, 0}, []int{40, 16, 16, 24, 32}, 42},
		{2, []int{24, 24, 8}, []int{-8, -8, -24}, 26}, {-36, []int{24, 13, 0, 16}, []int{-40, -19, -32, -48}, 54}, {33, []int{24, 0, 26, 0, 16}, []int{24, 32, 26, 32, 16}, 45},
		{40, []int{16, 24, 0, 16}, []int{16, 24, 32, 16}, 56}, {-46, []int{16, 14, 0, 8, 24}, []int{-48, -18, -32, -24, -40}, 70}, {33, []int{8, 16, 24, 8}, []int{40, 16, 24, 8}, 55},
		{16, []int{0, 16}, []int{0, -16}, 32}, {0, []int{16, 0}, []int{-16, -32}, 32}, {0, []int{16, 0, 16}, []int{-16, -32, -48}, 48}, {0, []int{0, 16, 0}, []int{0, -16, -32}, 32}, {0, []int{0, 16, 1}, []int{0, -16, -31}, 31}, {0, []int{0, 16, 31}, []int{0, -16, -1}, 31},
		{-8, []int{8, 16, 0, 16, 8}, []int{-24, -16, -32, -16, -24}, 64}, {24, []int{0, 8, 16, 24}, []int{0, 8, 16, 24}, 48}, {0, []int{10, 20, 30, 8, 18}, []int{-22, -12, -2, 8, 18}, 62}, {-23, []int{0, 16, 24, 24, 26}, []int{-32, -48, -40, -40, -38}, 35},
	} {
		x.check(t)
	}
}

// P13.4: plans of 40 columns.
func TestPlanThroughFortyColumns(t *testing.T) {
	zigzag := append([]int{47, 17}, times(19, 15, 17)...)
	for _, x := range []known{
		{0, times(40, 0), times(40, 0), 0}, {0, times(40, 16), times(40, -16), 16}, {0, times(20, 16, 0), append([]int{-16, -32}, times(19, -48, -32)...), 640}, {47, times(20, 15, 17), zigzag, 106},
		{0, times(5, 15, 31, 15, 31, 1, 17, 1, 17), []int{15, -1, -17, -33, -31, -47, -31, -15, -17, -33, -17, -33, -31, -47, -31, -15, -17, -33, -17, -33, -31, -47, -31, -15, -17, -33, -17, -33, -31, -47, -31, -15, -17, -33, -17, -33, -31, -47, -31, -47}, 513},
	} {
		x.check(t)
	}
	for _, x := range []struct {
		at, length int
		column     func(i int) int
		way        []int
	}{
		{-48, 283, func(i int) int { return (16 + 5*i) % 32 }, []int{-48, -43, -38, -33, -28, -23, -18, -45, -40, -35, -30, -25, -20, -47, -42, -37, -32, -27, -22, -17, -44, -39, -34, -29, -24, -19, -46, -41, -36, -31, -26, -21, -16, -11, -6, -1, 4, 9, 14, 19}},
		{48, 381, func(i int) int { return (16 + 25*i) % 32 }, []int{48, 41, 34, 27, 20, 13, 6, -1, -8, -15, -22, -29, -36, -43, -18, -25, -32, -39, -46, -21, -28, -35, -42, -17, -24, -31, -38, -45, -20, -27, -34, -41, -48, -23, -30, -37, -44, -19, -26, -33}},
		{48, 100, func(i int) int { return (17 + i) % 32 }, []int{17, -14, -13, -12, -11, -10, -9, -8, -7, -6, -5, -4, -3, -2, -1, 0, 1, 2, 3, 4, 5, 6, 7, 8, 9, 10, 11, 12, 13, 14, 15, 16, 17, 18, 19, 20, 21, 22, 23, 24}},
		{-48, 100, func(i int) int { return (47 - i) % 32 }, []int{-17, -18, -19, -20, -21, -22, -23, -24, -25, -26, -27, -28, -29, -30, -31, -32, -33, -34, -35, -36, -37, -38, -39, -40, -41, -42, -43, -44, -45, -46, -47, -48, -17, -18, -19, -20, -21, -22, -23, -24}},
		{0, 532, func(i int) int { return 10 * (i + 1) % 32 }, []int{-22, -44, -34, -24, -46, -36, -26, -48, -38, -28, -18, -40, -30, -20, -42, -32, -22, -44, -34, -24, -46, -36, -26, -48, -38, -28, -18, -40, -30, -20, -42, -32, -22, -12, -2, 8, 18, 28, 38, 48}},
		{-5, 605, func(i int) int { return 13 * (i + 1) % 32 }, []int{-19, -38, -25, -44, -31, -18, -37, -24, -43, -30, -17, -36, -23, -42, -29, -48, -35, -22, -41, -28, -47, -34, -21, -40, -27, -46, -33, -20, -39, -26, -45, -32, -19, -38, -25, -12, 1, 14, 27, 40}},
		{20, 331, func(i int) int { return i * i % 32 }, []int{0, 1, 4, 9, 16, 25, 36, 17, 32, 17, 4, -7, -16, -23, -28, -31, -32, -31, -28, -23, -16, -7, 4, 17, 32, 17, 4, -7, -16, -23, -28, -31, -32, -31, -28, -23, -16, -7, 4, 17}},
		{-31, 301, func(i int) int { return (i + 1) * (i + 1) * (i + 1) % 32 }, []int{-31, -24, -37, -32, -35, -40, -41, -32, -39, -24, -13, 0, -11, -8, -17, -32, -15, -24, -21, -32, -19, -8, 7, 0, 9, 8, 3, 0, 5, -8, -1, 0, 1, 8, -5, 0, -3, -8, -9, 0}},
	} {
		var columns []int
		for i := range 40 {
			columns = append(columns, x.column(i))
		}
		known{x.at, columns, x.way, x.length}.check(t)
	}
}

func checkNoPlan(t *testing.T, at int, columns []int) {
	t.Helper()
	if way, length, err := mount.Plan(at, columns); len(way) != 0 || length != 0 || err != api.ErrArg {
		t.Errorf("Plan(%d, %v): %v, %d, error %d", at, columns, way, length, err)
	}
}

// P13.1 (M3), P1: ErrArg and zeros if there is no such position, through any number of columns.
func TestPlanFromNoPosition(t *testing.T) {
	for _, at := range noPositions() {
		for n := range 42 {
			checkNoPlan(t, at, times(n, 16))
		}
		checkNoPlan(t, at, []int{3, 32})
		checkNoPlan(t, at, append(times(41, 8), -1))
	}
}

// P13.1 (M3), P1: ErrArg and zeros if there is no such column at the beginning, in the middle, at the end or at several of these places.
func TestPlanThroughNoColumn(t *testing.T) {
	for _, column := range noColumns() {
		for _, at := range []int{-48, -16, 0, 5, 48} {
			for n := 1; n <= 40; n++ {
				for i := range n {
					columns := times(n, 5)
					columns[i] = column
					checkNoPlan(t, at, columns)
				}
				checkNoPlan(t, at, times(n, column))
			}
		}
	}
}

// P13.1 (M3), P1: ErrArg and zeros for more than 40 columns, whether there are such columns or not.
func TestPlanThroughTooManyColumns(t *testing.T) {
	for _, at := range []int{-48, -47, 0, 16, 47, 48} {
		for _, n := range []int{41, 42, 80, 81, 256, 296, 65536, 65576} {
			if way, length, err := mount.Plan(at, times(n, 16)); len(way) != 0 || length != 0 || err != api.ErrArg {
				t.Errorf("from %d through %d columns: %v, %d, error %d", at, n, way, length, err)
			}
		}
		checkNoPlan(t, at, append(times(40, 0), 32))
		checkNoPlan(t, at, append([]int{-1}, times(40, 31)...))
	}
	for column := range 32 {
		checkNoPlan(t, 0, times(41, column))
	}
}
