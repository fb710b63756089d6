package shares_test

import (
	"math"
	"slices"
	"testing"

	"observatory/api"
	"observatory/shares"
)

const last = api.Prime - 1

// edges are elements at the ends of the field, and in its middle.
func edges() []int { return []int{0, 1, 2, 1<<30 - 1, 1 << 30, last - 1, last} }

// strangers are no elements.
func strangers() []int {
	return []int{math.MinInt, -1 << 32, -api.Prime - 1, -api.Prime, -last, -2, -1, api.Prime, api.Prime + 1, api.Prime + 5, 2 * api.Prime, 1<<32 + 5, math.MaxInt}
}

// outside are no numbers from 1 to 16.
func outside() []int {
	return []int{math.MinInt, math.MinInt + 1, -1 << 32, -17, -16, -2, -1, 0, 17, 18, 100, 1<<32 + 1, math.MaxInt - 1, math.MaxInt}
}

// countdown returns so many elements: from one on, each less by 1 than the one before.
func countdown(from, n int) []int {
	list := make([]int, n)
	for i := range list {
		list[i] = from - i
	}
	return list
}

// power returns the coefficients of a multiple of a power of x, without the constant.
func power(factor, exponent int) []int { return append(make([]int, exponent-1), factor) }

// inOrder returns shares with the X from 1 on.
func inOrder(ys ...int) []api.Share {
	var l []api.Share
	for i, y := range ys {
		l = append(l, api.Share{X: i + 1, Y: y})
	}
	return l
}

// expectSplit checks the shares of a secret; the list of elements, and what lies behind it, are left as they are.
func expectSplit(t *testing.T, secret, need, total int, random []int, want []api.Share, wantErr api.Errno) {
	t.Helper()
	whole := random[:cap(random)]
	before := slices.Clone(whole)
	got, err := shares.Split(secret, need, total, random)
	if !slices.Equal(got, want) || err != wantErr {
		t.Errorf("Split of %d, %d, %d, %v: %v, error %d; want %v, error %d", secret, need, total, random, got, err, want, wantErr)
	}
	if !slices.Equal(whole, before) {
		t.Errorf("Split changes %v to %v", before, whole)
	}
}

// expectJoin checks what shares are joined to; they, and what lies behind them, are left as they are.
func expectJoin(t *testing.T, l []api.Share, need, want int, wantErr api.Errno) {
	t.Helper()
	whole := l[:cap(l)]
	before := slices.Clone(whole)
	got, err := shares.Join(l, need)
	if got != want || err != wantErr {
		t.Errorf("Join of %v, %d: %d, error %d; want %d, error %d", l, need, got, err, want, wantErr)
	}
	if !slices.Equal(whole, before) {
		t.Errorf("Join changes %v to %v", before, whole)
	}
}

// known is a secret with its shares, which a second program has computed with sums of powers.
type known struct {
	secret, need, total int
	random, ys          []int
}

func knownShares() []known {
	return []known{
		{7, 2, 3, []int{5}, []int{12, 17, 22}},
		{7, 1, 1, nil, []int{7}}, {0, 1, 1, nil, []int{0}}, {last, 1, 1, []int{}, []int{last}}, {7, 1, 2, nil, []int{7, 7}},
		{9, 1, 15, nil, slices.Repeat([]int{9}, 15)}, {last, 1, 16, nil, slices.Repeat([]int{last}, 16)}, {0, 1, 16, nil, make([]int, 16)},
		{1, 2, 2, []int{1}, []int{2, 3}}, {last, 2, 3, []int{1}, []int{0, 1, 2}}, {0, 2, 2, []int{last}, []int{last, last - 1}}, {0, 2, 2, []int{0}, []int{0, 0}}, {last, 2, 2, []int{last}, []int{last - 1, last - 2}},
		{1, 3, 4, []int{2, 3}, []int{6, 17, 34, 57}}, {1000000007, 3, 5, []int{1234567890, 2000000011}, []int{2087084261, 731717596, 1228867306, 1431049744, 1338264910}},
		{5, 3, 6, []int{3, 1}, []int{9, 15, 23, 33, 45, 59}}, {5, 4, 6, []int{3, 1, 0}, []int{9, 15, 23, 33, 45, 59}}, {5, 6, 6, []int{3, 1, 0, 0, 0}, []int{9, 15, 23, 33, 45, 59}}, {3, 16, 16, make([]int, 15), slices.Repeat([]int{3}, 16)},
		{0, 2, 16, []int{last}, countdown(last, 16)},
		{last, 3, 16, []int{last, last}, []int{2147483644, 2147483640, 2147483634, 2147483626, 2147483616, 2147483604, 2147483590, 2147483574, 2147483556, 2147483536, 2147483514, 2147483490, 2147483464, 2147483436, 2147483406, 2147483374}},
		{123456789, 15, 15, countdown(last, 14), []int{123456684, 123030803, 26601666, 1674417198, 445980687, 1640505794, 80790957, 912295899, 2009471527, 2060418837, 42662222, 904162003, 1958449341, 1963293945, 1275974699}},
		{123456789, 15, 16, countdown(last, 14), []int{123456684, 123030803, 26601666, 1674417198, 445980687, 1640505794, 80790957, 912295899, 2009471527, 2060418837, 42662222, 904162003, 1958449341, 1963293945, 1275974699, 1934501331}},
		{0, 16, 16, countdown(last, 15), []int{2147483527, 2146566141, 1835394919, 477218578, 2120352481, 1078577113, 1387386837, 788593350, 2004306054, 1265081641, 1179355742, 1746830235, 416465001, 1565033761, 1349072609, 200431803}},
		{last, 16, 16, countdown(1<<30, 15), []int{1073741725, 2146664441, 793938133, 477218576, 285011170, 1302992429, 2079540815, 481838056, 836725818, 1578344311, 1298437243, 1368118675, 140642087, 273099572, 561054729, 1488921989}},
		{0, 16, 16, power(1, 15), []int{1, 32768, 14348907, 1073741824, 452807067, 2033549530, 1622650073, 16384, 1137438524, 617454333, 1633976897, 1080916277, 1812555421, 1449975991, 1704883271, 536870912}},
		{0, 16, 16, power(last, 15), []int{2147483646, 2147450879, 2133134740, 1073741823, 1694676580, 113934117, 524833574, 2147467263, 1010045123, 1530029314, 513506750, 1066567370, 334928226, 697507656, 442600376, 1610612735}},
	}
}

// P7.1 (G1): need from 1 to the total, totals from 1 to 16, secrets and elements 0 and Prime - 1, coefficients 0 at the end.
func TestSplit(t *testing.T) {
	for _, c := range knownShares() {
		expectSplit(t, c.secret, c.need, c.total, c.random, inOrder(c.ys...), api.OK)
	}
}

// P7.1 (G2): the first shares that are needed, the last ones, and all of them.
func TestJoin(t *testing.T) {
	for _, c := range knownShares() {
		l := inOrder(c.ys...)
		expectJoin(t, l[:c.need], c.need, c.secret, api.OK)
		expectJoin(t, l[c.total-c.need:], c.need, c.secret, api.OK)
		expectJoin(t, l, c.need, c.secret, api.OK)
		slices.Reverse(l)
		expectJoin(t, l, c.need, c.secret, api.OK)
		expectJoin(t, l[:c.need], c.need, c.secret, api.OK)
		if c.need > 1 {
			expectJoin(t, l[:c.need-1], c.need, 0, api.ErrQuorum)
		}
	}
}

// P7.1 (G1, G2): the examples of the chapter.
func TestExamples(t *testing.T) {
	expectSplit(t, 7, 2, 3, []int{5}, []api.Share{{X: 1, Y: 12}, {X: 2, Y: 17}, {X: 3, Y: 22}}, api.OK)
	expectJoin(t, []api.Share{{X: 3, Y: 22}, {X: 1, Y: 12}}, 2, 7, api.OK)
	expectJoin(t, []api.Share{{X: 3, Y: 22}}, 2, 0, api.ErrQuorum)
	expectJoin(t, []api.Share{{X: 1, Y: 12}, {X: 1, Y: 12}}, 2, 0, api.ErrTwice)
	expectJoin(t, []api.Share{{X: 1, Y: 12}, {X: 2, Y: 17}, {X: 3, Y: 23}}, 2, 0, api.ErrProof)
}

// P7.1 (G2): shares that no secret was split into, at X 1, 16 and between; further ones on the polynomial and beside it.
func TestJoinOfAnyShares(t *testing.T) {
	for _, c := range []struct {
		l          []api.Share
		need, want int
		err        api.Errno
	}{
		{[]api.Share{{X: 16, Y: 9}}, 1, 9, api.OK}, {[]api.Share{{X: 1, Y: 0}}, 1, 0, api.OK}, {[]api.Share{{X: 1, Y: last}}, 1, last, api.OK}, {[]api.Share{{X: 16, Y: 0}}, 1, 0, api.OK}, {[]api.Share{{X: 16, Y: last}}, 1, last, api.OK},
		{[]api.Share{{X: 16, Y: 9}, {X: 1, Y: 9}}, 1, 9, api.OK}, {[]api.Share{{X: 16, Y: 9}, {X: 1, Y: 8}}, 1, 0, api.ErrProof}, {[]api.Share{{X: 1, Y: 0}, {X: 16, Y: last}}, 1, 0, api.ErrProof}, {[]api.Share{{X: 1, Y: 9}, {X: 2, Y: 9}, {X: 16, Y: 8}}, 1, 0, api.ErrProof},
		{[]api.Share{{X: 2, Y: last - 1}, {X: 1, Y: last}}, 2, 0, api.OK}, {[]api.Share{{X: 1, Y: 0}, {X: 2, Y: 1}}, 2, last, api.OK}, {[]api.Share{{X: 1, Y: 0}, {X: 16, Y: 15}}, 2, last, api.OK}, {[]api.Share{{X: 16, Y: 0}, {X: 8, Y: 1}}, 2, 2, api.OK}, {[]api.Share{{X: 1, Y: 1}, {X: 3, Y: 2}}, 2, 1 << 30, api.OK},
		{[]api.Share{{X: 16, Y: 32}, {X: 1, Y: 2}, {X: 9, Y: 18}}, 2, 0, api.OK}, {[]api.Share{{X: 16, Y: 32}, {X: 1, Y: 2}, {X: 9, Y: 17}}, 2, 0, api.ErrProof}, {[]api.Share{{X: 16, Y: 31}, {X: 1, Y: 2}, {X: 9, Y: 18}}, 2, 0, api.ErrProof}, {[]api.Share{{X: 16, Y: 32}, {X: 1, Y: 1}, {X: 9, Y: 18}}, 2, 0, api.ErrProof},
		{inOrder(1, 4, 9), 3, 0, api.OK}, {inOrder(1, 4, 9), 2, 0, api.ErrProof}, {inOrder(1, 4, 9), 1, 0, api.ErrProof}, {inOrder(1, 4, 9, 16), 3, 0, api.OK}, {inOrder(1, 4, 9, 17), 3, 0, api.ErrProof}, {inOrder(1, 4, 9, 17), 4, last, api.OK}, {inOrder(1, 4, 9, 16, 26), 3, 0, api.ErrProof}, {inOrder(1, 4, 9, 16, 26), 4, 0, api.ErrProof}, {inOrder(1, 4, 9, 16, 26), 5, 1, api.OK},
		{inOrder(5, 5, 5, 5), 3, 5, api.OK}, {inOrder(0, 0, 0), 2, 0, api.OK}, {inOrder(last, last, last), 2, last, api.OK},
	} {
		expectJoin(t, c.l, c.need, c.want, c.err)
	}
}

// P7.1 (G2): a power of x is refused for fewer shares than it needs, and accepted for as many and for more.
func TestJoinWithAnotherNeed(t *testing.T) {
	for exponent := 1; exponent < 16; exponent++ {
		l, err := shares.Split(5, exponent+1, 16, power(last, exponent))
		if err != api.OK {
			t.Fatalf("error %d", err)
		}
		for need := 1; need <= 16; need++ {
			if need <= exponent {
				expectJoin(t, l, need, 0, api.ErrProof)
			} else {
				expectJoin(t, l, need, 5, api.OK)
			}
		}
	}
}

// P7.1 (G1), P1: secrets and elements that are none, at each place.
func TestSplitOfStrangers(t *testing.T) {
	for _, wrong := range strangers() {
		for need := 1; need <= 16; need++ {
			for _, total := range []int{need, 16} {
				for _, list := range [][]int{make([]int, need-1), countdown(last, need-1)} {
					expectSplit(t, wrong, need, total, list, nil, api.ErrArg)
					for place := range list {
						random := slices.Clone(list)
						random[place] = wrong
						expectSplit(t, 0, need, total, random, nil, api.ErrArg)
						expectSplit(t, last, need, total, random, nil, api.ErrArg)
						expectSplit(t, wrong, need, total, random, nil, api.ErrArg)
					}
				}
			}
		}
	}
}

// P7.1 (G1), P1: totals that are not from 1 to 16, and needs that are not from 1 to the total, with lists that would fit.
func TestSplitOfWrongNumbers(t *testing.T) {
	list := func(need int) []int { return countdown(last, min(max(need-1, 0), 20)) }
	for _, wrong := range outside() {
		for need := 1; need <= 16; need++ {
			expectSplit(t, 7, need, wrong, list(need), nil, api.ErrArg)
			expectSplit(t, 7, wrong, need, list(wrong), nil, api.ErrArg)
		}
		for _, other := range outside() {
			expectSplit(t, 7, wrong, other, list(wrong), nil, api.ErrArg)
			expectSplit(t, 7, wrong, other, nil, nil, api.ErrArg)
		}
	}
	for total := 1; total <= 16; total++ {
		for need := total + 1; need <= 17; need++ {
			expectSplit(t, 7, need, total, list(need), nil, api.ErrArg)
			expectSplit(t, 7, need, total, list(total), nil, api.ErrArg)
		}
	}
}

// P7.1 (G1), P1: lists that are too short or too long.
func TestSplitOfWrongLists(t *testing.T) {
	for need := 1; need <= 16; need++ {
		for n := range 20 {
			if n != need-1 {
				expectSplit(t, 7, need, need, countdown(last, n), nil, api.ErrArg)
				expectSplit(t, 7, need, 16, make([]int, n), nil, api.ErrArg)
			}
		}
		expectSplit(t, 7, need, 16, make([]int, 1000), nil, api.ErrArg)
	}
	expectSplit(t, 7, 2, 3, nil, nil, api.ErrArg)
	expectSplit(t, 7, 1, 3, []int{0}, nil, api.ErrArg)
}

// wrongShares are not valid.
func wrongShares() []api.Share {
	var l []api.Share
	for _, x := range outside() {
		l = append(l, api.Share{X: x, Y: 0}, api.Share{X: x, Y: 12}, api.Share{X: x, Y: -1})
	}
	for _, y := range strangers() {
		l = append(l, api.Share{X: 1, Y: y}, api.Share{X: 16, Y: y})
	}
	return l
}

// P7.1 (G2), P1: needs that are not from 1 to 16, and shares that are not valid, at each place, also beyond those that are needed; no other error is told before.
func TestJoinOfInvalid(t *testing.T) {
	for _, need := range outside() {
		for _, l := range [][]api.Share{nil, inOrder(7), inOrder(12, 17, 22), inOrder(12, 17, 23), inOrder(make([]int, 16)...), {{X: 1, Y: 5}, {X: 1, Y: 5}}, {{X: 0, Y: 5}}, make([]api.Share, 17)} {
			expectJoin(t, l, need, 0, api.ErrArg)
		}
	}
	for _, wrong := range wrongShares() {
		for n := 1; n <= 17; n++ {
			for place := range n {
				l := inOrder(countdown(last, n)...)
				if n == 17 {
					l[16].X = 1
				}
				l[place] = wrong
				for _, need := range []int{1, 2, n, 16} {
					expectJoin(t, l, min(need, 16), 0, api.ErrArg)
				}
				twice := slices.Repeat([]api.Share{{X: 3, Y: 22}}, n)
				twice[place] = wrong
				expectJoin(t, twice, 2, 0, api.ErrArg)
			}
		}
		expectJoin(t, []api.Share{wrong, wrong}, 1, 0, api.ErrArg)
	}
}

// P7.1 (G2): any two shares with the same X, their Y being equal or not, are told before a quorum that is missing and before points beside the polynomial.
func TestJoinOfEqualX(t *testing.T) {
	for n := 2; n <= 16; n++ {
		for place := range n {
			for other := range place {
				for _, y := range []int{last - other, 0, 5, last} {
					l := inOrder(countdown(last, n)...)
					l[place] = api.Share{X: other + 1, Y: y}
					for need := 1; need <= 16; need++ {
						expectJoin(t, l, need, 0, api.ErrTwice)
					}
				}
			}
		}
	}
	for _, n := range []int{2, 16, 17, 18, 1000} {
		for need := 1; need <= 16; need++ {
			expectJoin(t, slices.Repeat([]api.Share{{X: 16, Y: 9}}, n), need, 0, api.ErrTwice)
		}
	}
	for x := 1; x <= 16; x++ {
		for _, place := range []int{0, 1, 8, 15, 16} {
			for need := 1; need <= 16; need++ {
				expectJoin(t, slices.Insert(inOrder(countdown(last, 16)...), place, api.Share{X: x, Y: last - x + 1}), need, 0, api.ErrTwice)
			}
		}
	}
}

// P7.1 (G2): fewer shares than are needed, none among them.
func TestJoinOfTooFew(t *testing.T) {
	for need := 1; need <= 16; need++ {
		expectJoin(t, nil, need, 0, api.ErrQuorum)
		expectJoin(t, []api.Share{}, need, 0, api.ErrQuorum)
		expectJoin(t, make([]api.Share, 0, 20), need, 0, api.ErrQuorum)
		for n := range need {
			expectJoin(t, inOrder(countdown(last, n)...), need, 0, api.ErrQuorum)
			l := inOrder(make([]int, 16)...)
			expectJoin(t, l[16-n:], need, 0, api.ErrQuorum)
			expectJoin(t, l[:n], need, 0, api.ErrQuorum)
		}
	}
}

// P3: a call leaves nothing to a later one, and what lies behind a slice makes no difference.
func TestIndependence(t *testing.T) {
	for range 3 {
		for _, c := range knownShares() {
			random, l := append(slices.Clone(c.random), -1), append(inOrder(c.ys...), api.Share{})
			expectSplit(t, c.secret, c.need, c.total, random, nil, api.ErrArg)
			expectSplit(t, c.secret, c.need, c.total, random[:c.need-1], l[:c.total], api.OK)
			expectJoin(t, l, c.need, 0, api.ErrArg)
			expectJoin(t, l[:c.total], c.need, c.secret, api.OK)
			expectJoin(t, l[:c.need-1], c.need, 0, api.ErrQuorum)
		}
	}
}
