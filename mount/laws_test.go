package mount_test

import (
	"fmt"
	"math/rand"
	"slices"
	"sync"
	"testing"

	"observatory/api"
	"observatory/mount"
)

// columnsOf returns the columns of all positions, from -48 on, counted around the circle from position to position.
func columnsOf() [97]int {
	var columns [97]int
	column := 16
	for i := range columns {
		columns[i] = column
		column++
		if column == 32 {
			column = 0
		}
	}
	return columns
}

// apart returns the distance of two numbers.
func apart(a, b int) int {
	if a < b {
		return b - a
	}
	return a - b
}

// around returns the distance of two columns around the circle.
func around(a, b int) int {
	n := apart(a, b)
	if n > 16 {
		return 32 - n
	}
	return n
}

// columnAt returns the column of a position.
func columnAt(at int) int {
	return (at + 64) % 32
}

// planned returns the plan from a position through columns, which there must be.
func planned(t *testing.T, at int, columns []int) ([]int, int) {
	t.Helper()
	way, length, err := mount.Plan(at, columns)
	if err != api.OK {
		t.Fatalf("Plan(%d, %v): %v, %d, error %d", at, columns, way, length, err)
	}
	return way, length
}

// moved returns the move from a position to a column, which there must be.
func moved(t *testing.T, at, column int) (int, int) {
	t.Helper()
	to, distance, err := mount.Move(at, column)
	if err != api.OK {
		t.Fatalf("Move(%d, %d): %d, %d, error %d", at, column, to, distance, err)
	}
	return to, distance
}

// reached returns the positions of a column, which there must be.
func reached(t *testing.T, column int) []int {
	t.Helper()
	l, err := mount.Reach(column)
	if err != api.OK {
		t.Fatalf("Reach(%d): %v, error %d", column, l, err)
	}
	return l
}

// P13.1 (M1), P13.2: the positions of all columns are those that are counted around the circle; there are 3 or 4 of them, and each follows the one before by 32.
func TestAllReach(t *testing.T) {
	var want [32][]int
	for i, column := range columnsOf() {
		want[column] = append(want[column], i-48)
	}
	four := 0
	for column := range 32 {
		l := reached(t, column)
		if !slices.Equal(l, want[column]) {
			t.Errorf("Reach(%d): %v; want %v", column, l, want[column])
		}
		if len(l) != 3 && len(l) != 4 {
			t.Errorf("column %d has the positions %v", column, l)
		}
		for i := 1; i < len(l); i++ {
			if l[i]-l[i-1] != 32 {
				t.Errorf("the positions of column %d: %v", column, l)
			}
		}
		four += len(l) / 4
	}
	if four != 1 {
		t.Errorf("%d columns have four positions", four)
	}
}

// sought returns the nearest position of a column, sought in both directions, step by step, first in that of lesser positions.
func sought(at, column int) (int, int) {
	columns := columnsOf()
	for distance := 0; ; distance++ {
		for _, to := range []int{at - distance, at + distance} {
			if to >= -48 && to <= 48 && columns[to+48] == column {
				return to, distance
			}
		}
	}
}

// P13.1 (M2), P13.3, P13.8: all moves go to the nearest position, are shorter than 32 and no shorter than around the circle, and are the plans through one column.
func TestAllMoves(t *testing.T) {
	twoNearest, longer := 0, 0
	for at := -48; at <= 48; at++ {
		for column := range 32 {
			to, distance := moved(t, at, column)
			if want, n := sought(at, column); to != want || distance != n {
				t.Fatalf("Move(%d, %d): %d, %d; want %d, %d", at, column, to, distance, want, n)
			}
			if distance >= 32 || distance < around(columnAt(at), column) || distance != apart(at, to) {
				t.Errorf("Move(%d, %d): %d, %d", at, column, to, distance)
			}
			for _, other := range reached(t, column) {
				if n := apart(at, other); n < distance || n == distance && other < to {
					t.Errorf("Move(%d, %d): %d, %d; but to %d it's %d", at, column, to, distance, other, n)
				} else if n == distance && other != to {
					twoNearest++
				}
			}
			if distance > around(columnAt(at), column) {
				longer++
			}
			if way, length := planned(t, at, []int{column}); !slices.Equal(way, []int{to}) || length != distance {
				t.Errorf("Plan(%d, [%d]): %v, %d; Move: %d, %d", at, column, way, length, to, distance)
			}
		}
	}
	// The positions from -32 to 32 have some 16 away on both sides. From n positions behind them, n - 1 columns are nearer around the circle than the wrap permits, up to n = 16, in both directions.
	if twoNearest != 65 || longer != 2*(16*15/2) {
		t.Errorf("%d moves have two nearest positions, and %d are longer than around the circle", twoNearest, longer)
	}
}

// best returns the lexicographically least way of the least length among all ways, and how many of them have this length. Of several positions, the lesser ones are tried first.
func best(at int, columns []int, all *[32][]int) (way []int, length, ways int) {
	var now [8]int
	var visit func(i, at, walked int)
	visit = func(i, at, walked int) {
		if i < len(columns) {
			for _, to := range all[columns[i]] {
				now[i] = to
				visit(i+1, to, walked+apart(at, to))
			}
			return
		}
		if ways == 0 || walked < length {
			way, length, ways = append(way[:0], now[:i]...), walked, 0
		}
		if walked == length {
			ways++
		}
	}
	visit(0, at, 0)
	return way, length, ways
}

// allPositions returns the positions of all columns.
func allPositions() *[32][]int {
	var all [32][]int
	for i, column := range columnsOf() {
		all[column] = append(all[column], i-48)
	}
	return &all
}

// checkBest compares a plan with all ways, and returns how many of these are of the least length.
func checkBest(t *testing.T, at int, columns []int, all *[32][]int) int {
	t.Helper()
	way, length := planned(t, at, columns)
	want, n, ways := best(at, columns, all)
	if !slices.Equal(way, want) || length != n {
		t.Fatalf("Plan(%d, %v): %v, %d; want %v, %d", at, columns, way, length, want, n)
	}
	return ways
}

// P13.1 (M3), P13.4: from all positions, the plans through all lists of up to two columns are the best ones of all ways.
func TestAllPlansThroughTwoColumns(t *testing.T) {
	all := allPositions()
	for at := -48; at <= 48; at++ {
		checkBest(t, at, nil, all)
		for a := range 32 {
			checkBest(t, at, []int{a}, all)
			for b := range 32 {
				checkBest(t, at, []int{a, b}, all)
			}
		}
	}
}

// P13.1 (M3), P13.4: from all positions, the plans through three of the columns at which something changes are the best ones of all ways.
func TestPlansThroughThreeColumns(t *testing.T) {
	all, several := allPositions(), 0
	columns := []int{0, 1, 8, 15, 16, 17, 24, 30, 31}
	for at := -48; at <= 48; at++ {
		for _, a := range columns {
			for _, b := range columns {
				for _, c := range columns {
					if checkBest(t, at, []int{a, b, c}, all) > 1 {
						several++
					}
				}
			}
		}
	}
	if several < 1000 {
		t.Errorf("only %d of them have several best ways", several)
	}
}

// P13.1 (M3), P13.4: random plans through up to seven columns are the best ones of all ways.
func TestPlansThroughSevenColumns(t *testing.T) {
	random, all := rand.New(rand.NewSource(1)), allPositions()
	for range 3000 {
		checkBest(t, random.Intn(97)-48, anyColumns(random, 3+random.Intn(5)), all)
	}
}

// anyColumns returns random columns: any ones, ones with many ways of the same length, ones around the column 16, or ones that go around the circle.
func anyColumns(random *rand.Rand, n int) []int {
	kind, by, column := random.Intn(5), random.Intn(32), random.Intn(32)
	columns := make([]int, n)
	for i := range columns {
		switch kind {
		case 0:
			columns[i] = random.Intn(32)
		case 1:
			columns[i] = 8 * random.Intn(4)
		case 2:
			columns[i] = 13 + random.Intn(7)
		case 3:
			columns[i] = (column + by*i) % 32
		default:
			column = (column + random.Intn(25)) % 32
			columns[i] = column
		}
	}
	return columns
}

// question is a position from which, and columns through which a way is planned.
type question struct {
	at      int
	columns []int
}

// questions returns random questions with any number of columns, and some with 40.
func questions(seed int64, n int) []question {
	random := rand.New(rand.NewSource(seed))
	var l []question
	for i := range n {
		stops := 40
		if i%4 > 0 {
			stops = random.Intn(41)
		}
		at := random.Intn(97) - 48
		if i%5 == 0 {
			at = 16 * (random.Intn(7) - 3)
		}
		l = append(l, question{at, anyColumns(random, stops)})
	}
	return l
}

// A trail is a way with its length.
type trail struct {
	way    []int
	length int
}

// extended returns the best trails to each position of a column, from the best ones to the positions before. What comes behind a position is the same whatever was before, so no other trail to it has to be known.
func extended(before map[int]trail, to []int) map[int]trail {
	after := map[int]trail{}
	for _, p := range to {
		for at, way := range before {
			next := trail{append(slices.Clone(way.way), p), way.length + apart(at, p)}
			if known, ok := after[p]; !ok || next.before(known) {
				after[p] = next
			}
		}
	}
	return after
}

func (a trail) before(b trail) bool {
	if a.length != b.length {
		return a.length < b.length
	}
	return slices.Compare(a.way, b.way) < 0
}

// P13.1 (M3), P13.4: plans through up to 40 columns are those that are found from the beginning on, with the ways themselves kept and compared.
func TestPlansFoundFromTheBeginning(t *testing.T) {
	all := allPositions()
	for _, q := range questions(2, 1500) {
		trails := map[int]trail{q.at: {}}
		for _, column := range q.columns {
			trails = extended(trails, all[column])
		}
		var want *trail
		for _, found := range trails {
			if want == nil || found.before(*want) {
				want = &found
			}
		}
		if way, length := planned(t, q.at, q.columns); !slices.Equal(way, want.way) || length != want.length {
			t.Fatalf("Plan(%d, %v): %v, %d; want %v, %d", q.at, q.columns, way, length, want.way, want.length)
		}
	}
}

// stepsThrough returns the number of steps to the next position, in either direction, that a mount needs to pass through columns: it never leaves the positions from -48 to 48, and whenever it is in the column that is next, it may go on to the one behind.
func stepsThrough(q question) int {
	columns := columnsOf()
	type state struct{ at, passed int }
	known := map[state]bool{}
	now := []state{{q.at, 0}}
	for steps := 0; ; steps++ {
		var next []state
		for len(now) > 0 {
			s := now[0]
			now = now[1:]
			if s.at < -48 || s.at > 48 || known[s] {
				continue
			}
			known[s] = true
			if s.passed == len(q.columns) {
				return steps
			}
			if columns[s.at+48] == q.columns[s.passed] {
				now = append(now, state{s.at, s.passed + 1})
			}
			next = append(next, state{s.at - 1, s.passed}, state{s.at + 1, s.passed})
		}
		now = next
	}
}

// P13.4: a mount that goes on position by position needs as many steps through the columns as the plan is long.
func TestPlansStepByStep(t *testing.T) {
	for _, q := range questions(3, 300) {
		if way, length := planned(t, q.at, q.columns); length != stepsThrough(q) {
			t.Fatalf("Plan(%d, %v): %v, %d; but %d steps lead through", q.at, q.columns, way, length, stepsThrough(q))
		}
	}
}

// P13.4, P13.5: the way has the columns and its length, which is from the sum around the circle to that of moving to the nearest position each time; both of these are reached, and neither always.
func TestLengthsOfPlans(t *testing.T) {
	var least, most, between int
	for _, q := range questions(4, 4000) {
		way, length := planned(t, q.at, q.columns)
		if len(way) != len(q.columns) {
			t.Fatalf("Plan(%d, %v): %v", q.at, q.columns, way)
		}
		walked, circle, nearest := 0, 0, 0
		at, near, column := q.at, q.at, columnAt(q.at)
		for i, to := range way {
			if to < -48 || to > 48 || columnAt(to) != q.columns[i] {
				t.Fatalf("Plan(%d, %v): %v", q.at, q.columns, way)
			}
			walked += apart(at, to)
			circle += around(column, q.columns[i])
			step, distance := moved(t, near, q.columns[i])
			nearest += distance
			at, near, column = to, step, q.columns[i]
		}
		if walked != length || length < circle || length > nearest {
			t.Fatalf("Plan(%d, %v): %v, %d; walked: %d, around the circle: %d, nearest: %d", q.at, q.columns, way, length, walked, circle, nearest)
		}
		switch {
		case length == circle:
			least++
		case length == nearest:
			most++
		default:
			between++
		}
	}
	if least < 100 || most < 100 || between < 100 {
		t.Errorf("%d plans have the length around the circle, %d that of the nearest positions, %d another one", least, most, between)
	}
}

// P13.6: wherever a plan is divided, going on from the end of the plan through the first columns is not shorter than the whole plan, and neither is this shorter than that through the first columns; going on from a position of the plan itself is just as long.
func TestPartsOfPlans(t *testing.T) {
	longer := 0
	for _, q := range questions(5, 500) {
		way, length := planned(t, q.at, q.columns)
		walked, at := 0, q.at
		for i := range q.columns {
			first, n := planned(t, q.at, q.columns[:i])
			end := q.at
			if i > 0 {
				end = first[i-1]
			}
			_, rest := planned(t, end, q.columns[i:])
			if n+rest < length || n > length {
				t.Fatalf("Plan(%d, %v): %d; through the first %d: %d, and on: %d", q.at, q.columns, length, i, n, rest)
			}
			if n+rest > length {
				longer++
			}
			if behind, left := planned(t, at, q.columns[i:]); !slices.Equal(behind, way[i:]) || walked+left != length {
				t.Fatalf("Plan(%d, %v): %v, %d; on from %d: %v, %d", q.at, q.columns, way, length, at, behind, left)
			}
			walked += apart(at, way[i])
			at = way[i]
		}
	}
	if longer < 100 {
		t.Errorf("only %d divided plans are longer", longer)
	}
}

// P13.7: from the opposite position through the opposite columns, the length is the same; and the way is opposite if there is just one of the least length.
func TestOppositePlans(t *testing.T) {
	all := allPositions()
	for _, q := range append(questions(6, 3000), short(7, 3000)...) {
		way, length := planned(t, q.at, q.columns)
		var columns, want []int
		for i, column := range q.columns {
			columns = append(columns, (32-column)%32)
			want = append(want, -way[i])
		}
		opposite, n := planned(t, -q.at, columns)
		if n != length {
			t.Fatalf("Plan(%d, %v): %d; Plan(%d, %v): %d", q.at, q.columns, length, -q.at, columns, n)
		}
		if len(columns) > 5 {
			continue
		}
		if _, _, ways := best(q.at, q.columns, all); ways == 1 && !slices.Equal(opposite, want) {
			t.Fatalf("Plan(%d, %v): %v; Plan(%d, %v): %v", q.at, q.columns, way, -q.at, columns, opposite)
		}
	}
}

// short returns random questions with few columns.
func short(seed int64, n int) []question {
	random := rand.New(rand.NewSource(seed))
	var l []question
	for range n {
		l = append(l, question{random.Intn(97) - 48, anyColumns(random, random.Intn(6))})
	}
	return l
}

// P13.8: from each position, a way that stays in its column stays at the position, however often it is asked to.
func TestPlansThatStay(t *testing.T) {
	for i, column := range columnsOf() {
		at := i - 48
		for n := range 41 {
			if way, length := planned(t, at, times(n, column)); !slices.Equal(way, times(n, at)) || length != 0 {
				t.Fatalf("Plan(%d, %v): %v, %d", at, times(n, column), way, length)
			}
		}
	}
}

// P13.8: a column that is repeated does not change the way, but that it stays there.
func TestPlansWithRepeatedColumns(t *testing.T) {
	for _, q := range short(8, 2000) {
		way, length := planned(t, q.at, q.columns)
		for i := range q.columns {
			columns := slices.Insert(slices.Clone(q.columns), i, q.columns[i], q.columns[i])
			want := slices.Insert(slices.Clone(way), i, way[i], way[i])
			if l, n := planned(t, q.at, columns); !slices.Equal(l, want) || n != length {
				t.Fatalf("Plan(%d, %v): %v, %d; want %v, %d", q.at, columns, l, n, want, length)
			}
		}
	}
}

// P3: Plan does not change the columns, and keeps nothing of them.
func TestColumnsAreNotChanged(t *testing.T) {
	for _, q := range questions(9, 500) {
		columns := append(slices.Clone(q.columns), 77)
		way, length := planned(t, q.at, columns[:len(q.columns)])
		if !slices.Equal(columns, append(slices.Clone(q.columns), 77)) {
			t.Fatalf("Plan(%d, %v) has changed the columns to %v", q.at, q.columns, columns)
		}
		kept := slices.Clone(way)
		for i := range columns {
			columns[i] = -5
		}
		if again, n := planned(t, q.at, q.columns); !slices.Equal(way, kept) || !slices.Equal(again, kept) || n != length {
			t.Fatalf("Plan(%d, %v): %v, then %v", q.at, q.columns, kept, way)
		}
	}
}

// P3: what has been returned is not changed by later calls, nor are later results by changes to it.
func TestResultsAreNewMemory(t *testing.T) {
	l := reached(t, 16)
	way, _ := planned(t, 0, []int{16, 15, 20})
	for column := range 32 {
		reached(t, column)
		planned(t, 5, times(1+column, column))
	}
	if !slices.Equal(l, []int{-48, -16, 16, 48}) || !slices.Equal(way, []int{-16, -17, -12}) {
		t.Errorf("the results have become %v and %v", l, way)
	}
	for i := range l {
		l[i] = 7
	}
	for i := range way {
		way[i] = 7
	}
	if to, distance := moved(t, 0, 16); to != -16 || distance != 16 {
		t.Errorf("Move(0, 16): %d, %d", to, distance)
	}
	if again := reached(t, 16); !slices.Equal(again, []int{-48, -16, 16, 48}) {
		t.Errorf("Reach(16): %v", again)
	}
	if again, length := planned(t, 0, []int{16, 15, 20}); !slices.Equal(again, []int{-16, -17, -12}) || length != 22 {
		t.Errorf("Plan(0, [16 15 20]): %v, %d", again, length)
	}
}

// ask returns the results of all functions for a question, and for the move to its first column.
func ask(q question) string {
	column := -1
	if len(q.columns) > 0 {
		column = q.columns[0]
	}
	l, reachErr := mount.Reach(column)
	to, distance, moveErr := mount.Move(q.at, column)
	way, length, planErr := mount.Plan(q.at, q.columns)
	return fmt.Sprint(l, reachErr, to, distance, moveErr, way, length, planErr)
}

// P3: equal arguments yield equal results, whatever was called before, and in several goroutines at once.
func TestEqualArgumentsEqualResults(t *testing.T) {
	all := append(questions(10, 500), question{49, []int{1}}, question{0, []int{1, 32}}, question{0, times(41, 0)})
	want := make([]string, len(all))
	for i, q := range all {
		want[i] = ask(q)
	}
	var group sync.WaitGroup
	for worker := range 8 {
		group.Go(func() {
			for _, i := range rand.New(rand.NewSource(int64(worker))).Perm(len(all)) {
				if got := ask(all[i]); got != want[i] {
					t.Errorf("%v: %s; before: %s", all[i], got, want[i])
				}
			}
		})
	}
	group.Wait()
}
