package interval_test

import (
	"math/big"
	"math/rand"
	"slices"
	"testing"

	"observatory/api"
	"observatory/interval"
	"observatory/rational"
)

// some returns intervals of all signs, and long ones with sums and products beyond the limits.
func some() []api.Interval {
	list := intervals(rats("-2", "-1", "-1/3", "0", "1/2", "1", "5/2")...)
	return append(list, intervals(rats("-"+digits("9", 1000), "-1/"+power(500), "2/3", power(500))...)...)
}

// samples returns numbers of an interval: its ends, and numbers between them.
func samples(a api.Interval) []api.Rat {
	list := []api.Rat{a.Low, a.High}
	low, width := bigOf(a.Low), new(big.Rat).Sub(bigOf(a.High), bigOf(a.Low))
	for _, part := range []*big.Rat{big.NewRat(1, 3), big.NewRat(1, 2), big.NewRat(6, 7)} {
		if r := ratOf(new(big.Rat).Add(low, part.Mul(part, width))); rational.Valid(r) {
			list = append(list, r)
		}
	}
	return list
}

// lifted is an operation of intervals, with that of their numbers.
type lifted struct {
	whole operation
	of    func(a, b api.Rat) (api.Rat, api.Errno)
}

func operations() map[string]lifted {
	return map[string]lifted{"Add": {interval.Add, rational.Add}, "Mul": {interval.Mul, rational.Mul}}
}

// P5.2: what two intervals contain has a sum, and a product, that those of the intervals contain.
func TestContainment(t *testing.T) {
	for name, do := range operations() {
		results := 0
		for _, a := range some() {
			for _, b := range some() {
				whole, err := do.whole(a, b)
				if err != api.OK {
					continue
				}
				for _, x := range samples(a) {
					for _, y := range samples(b) {
						if r, err := do.of(x, y); err == api.OK && !interval.Contains(whole, r) {
							t.Errorf("%s of %s does not contain that of %s", name, short(a, b), short(api.Interval{Low: x, High: y}))
						}
					}
				}
				results++
			}
		}
		if results < 800 {
			t.Errorf("only %d intervals have results of %s", results, name)
		}
	}
}

// P5.3: each end is a sum, or a product, of ends; and results without an error are valid.
func TestEnds(t *testing.T) {
	for name, do := range operations() {
		for _, a := range some() {
			for _, b := range some() {
				whole, err := do.whole(a, b)
				if (err == api.OK) != interval.Valid(whole) || err != api.OK && whole != none {
					t.Errorf("%s of %s: %s, error %d", name, short(a, b), short(whole), err)
				}
				var ends []api.Rat
				for _, x := range []api.Rat{a.Low, a.High} {
					for _, y := range []api.Rat{b.Low, b.High} {
						r, _ := do.of(x, y)
						ends = append(ends, r)
					}
				}
				if err == api.OK && !(slices.Contains(ends, whole.Low) && slices.Contains(ends, whole.High)) {
					t.Errorf("%s of %s: %s has other ends", name, short(a, b), short(whole))
				}
			}
		}
	}
}

// hullOf checks the hull of a list: it contains what the intervals contain, has ends of theirs, and leaves the list as it is.
func hullOf(t *testing.T, l []api.Interval) api.Interval {
	t.Helper()
	before := slices.Clone(l)
	hull, err := interval.Hull(l)
	if err != api.OK || !slices.Equal(l, before) {
		t.Fatalf("Hull of %d intervals: error %d, or a changed list", len(l), err)
	}
	low, high := false, false
	for _, a := range l {
		low, high = low || a.Low == hull.Low, high || a.High == hull.High
		for _, r := range samples(a) {
			if !interval.Contains(hull, r) {
				t.Errorf("Hull of %s: %s does not contain %s", short(l...), short(hull), short(api.Interval{Low: r, High: r}))
			}
		}
	}
	if !low || !high {
		t.Errorf("Hull of %s: %s has other ends", short(l...), short(hull))
	}
	return hull
}

// P5.4: hulls of all triples of small intervals, in all orders.
func TestHulls(t *testing.T) {
	list := intervals(rats("-2", "-1/2", "0", "1/3", "3")...)
	for _, a := range list {
		for _, b := range list {
			for _, c := range list {
				hull := hullOf(t, []api.Interval{a, b, c})
				for _, l := range [][]api.Interval{{a, c, b}, {b, a, c}, {b, c, a}, {c, a, b}, {c, b, a}, {a, b, c, a}, {a, b, c, hull}} {
					if got, err := interval.Hull(l); got != hull || err != api.OK {
						t.Errorf("Hull of %s: %s, error %d; in another order %s", short(l...), short(got), err, short(hull))
					}
				}
			}
		}
	}
}

// P5.4: hulls of up to 1000 intervals, in any order.
func TestLongHulls(t *testing.T) {
	random := rand.New(rand.NewSource(2))
	number := func() *big.Rat { return big.NewRat(random.Int63n(2000)-1000, random.Int63n(50)+1) }
	for _, length := range []int{1, 4, 10, 100, 1000} {
		var l []api.Interval
		var numbers []*big.Rat
		for range length {
			low, high := number(), number()
			l, numbers = append(l, spanned(low, high)), append(numbers, low, high)
		}
		hull := hullOf(t, l)
		if want := spanned(numbers...); hull != want {
			t.Errorf("Hull of %d intervals: %s; want %s", length, short(hull), short(want))
		}
		for range 5 {
			random.Shuffle(length, func(i, k int) { l[i], l[k] = l[k], l[i] })
			if got, err := interval.Hull(l); got != hull || err != api.OK {
				t.Errorf("Hull of %d intervals: %s, error %d; in another order %s", length, short(got), err, short(hull))
			}
		}
	}
}

// P5.5: a number is in both of two intervals exactly if they meet, and it is in their common part.
func TestMeets(t *testing.T) {
	for _, a := range some() {
		for _, b := range some() {
			common, meets := interval.Meet(a, b)
			if meets != interval.Valid(common) || !meets && common != none {
				t.Errorf("Meet of %s: %s, %t", short(a, b), short(common), meets)
			}
			for _, r := range slices.Concat(samples(a), samples(b), rats("-2", "-1/2", "0", "1/4", "2/3", "3")) {
				both := interval.Contains(a, r) && interval.Contains(b, r)
				if both != (meets && interval.Contains(common, r)) {
					t.Errorf("Meet of %s: %s, %t; %s is in both: %t", short(a, b), short(common), meets, short(api.Interval{Low: r, High: r}), both)
				}
			}
		}
	}
}

// P5.6: sums, products and meets, and their errors, are the same in both orders.
func TestOrders(t *testing.T) {
	list := append(some(), none, of("1", "0"), of("2/4", "1"))
	for _, a := range list {
		for _, b := range list {
			for name, do := range operations() {
				first, firstErr := do.whole(a, b)
				if second, err := do.whole(b, a); first != second || firstErr != err {
					t.Errorf("%s of %s depends on their order", name, short(a, b))
				}
			}
			first, firstOk := interval.Meet(a, b)
			if second, ok := interval.Meet(b, a); first != second || firstOk != ok {
				t.Errorf("Meet of %s depends on their order", short(a, b))
			}
		}
	}
}

// P5.6: the sum, and the product, of a part of an interval are parts of those of the interval.
func TestInclusion(t *testing.T) {
	parts := 0
	includes := func(a, b api.Interval) bool { return interval.Contains(a, b.Low) && interval.Contains(a, b.High) }
	for _, outer := range some() {
		for _, inner := range some() {
			if !includes(outer, inner) {
				continue
			}
			for _, third := range some() {
				for name, do := range operations() {
					whole, wholeErr := do.whole(outer, third)
					part, partErr := do.whole(inner, third)
					if wholeErr != api.OK || partErr != api.OK {
						continue
					}
					if !includes(whole, part) {
						t.Errorf("%s of %s does not include that of %s", name, short(outer, third), short(inner, third))
					}
					parts++
				}
			}
		}
	}
	if parts < 10000 {
		t.Errorf("only %d parts have results", parts)
	}
}

// P1, P3: for all arguments, valid or not, the functions end, and equal arguments yield equal results.
func TestAgain(t *testing.T) {
	type results struct {
		valid, contains, meets bool
		intervals              [4]api.Interval
		errors                 [3]api.Errno
	}
	all := func(a, b api.Interval) results {
		var r results
		r.valid, r.contains = interval.Valid(a), interval.Contains(a, b.Low)
		r.intervals[0], r.errors[0] = interval.Add(a, b)
		r.intervals[1], r.errors[1] = interval.Mul(a, b)
		r.intervals[2], r.errors[2] = interval.Hull([]api.Interval{a, b})
		r.intervals[3], r.meets = interval.Meet(a, b)
		return r
	}
	number := func(a api.Rat) api.Rat {
		return api.Rat{Neg: a.Neg, Num: api.Nat([]byte(a.Num)), Den: api.Nat([]byte(a.Den))}
	}
	copied := func(a api.Interval) api.Interval { return api.Interval{Low: number(a.Low), High: number(a.High)} }
	list := append(malformed(), some()...)
	for i, a := range list {
		for _, b := range list[i%3:] {
			first := all(a, b)
			all(b, api.Interval{Low: a.High, High: b.Low})
			if again := all(copied(a), copied(b)); again != first {
				t.Errorf("%s: other results than before", short(a, b))
			}
		}
	}
}
