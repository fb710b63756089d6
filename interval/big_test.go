package interval_test

import (
	"math/big"
	"math/rand"
	"slices"
	"strings"
	"testing"

	"observatory/api"
	"observatory/interval"
	"observatory/rational"
)

func bigOf(a api.Rat) *big.Rat {
	num, _ := new(big.Int).SetString(string(a.Num), 10)
	den, _ := new(big.Int).SetString(string(a.Den), 10)
	if a.Neg {
		num.Neg(num)
	}
	return new(big.Rat).SetFrac(num, den)
}

func ratOf(r *big.Rat) api.Rat {
	num := new(big.Int).Abs(r.Num())
	return api.Rat{Neg: r.Sign() < 0, Num: api.Nat(num.String()), Den: api.Nat(r.Denom().String())}
}

// spanned returns the interval from the least to the greatest of some numbers.
func spanned(numbers ...*big.Rat) api.Interval {
	order := func(a, b *big.Rat) int { return a.Cmp(b) }
	return api.Interval{Low: ratOf(slices.MinFunc(numbers, order)), High: ratOf(slices.MaxFunc(numbers, order))}
}

// limited returns a result, unless an operation of package rational has an error for one of the pairs.
func limited(do func(a, b api.Rat) (api.Rat, api.Errno), result api.Interval, pairs ...[2]api.Rat) (api.Interval, api.Errno) {
	for _, pair := range pairs {
		if _, err := do(pair[0], pair[1]); err != api.OK {
			return none, err
		}
	}
	return result, api.OK
}

// agree compares all operations on two intervals with math/big.
func agree(t *testing.T, a, b api.Interval) {
	t.Helper()
	lowA, highA, lowB, highB := bigOf(a.Low), bigOf(a.High), bigOf(b.Low), bigOf(b.High)
	want, err := limited(rational.Add, spanned(new(big.Rat).Add(lowA, lowB), new(big.Rat).Add(highA, highB)), [2]api.Rat{a.Low, b.Low}, [2]api.Rat{a.High, b.High})
	expect(t, "Add", interval.Add, a, b, want, err)
	times := func(x, y *big.Rat) *big.Rat { return new(big.Rat).Mul(x, y) }
	products := spanned(times(lowA, lowB), times(lowA, highB), times(highA, lowB), times(highA, highB))
	want, err = limited(rational.Mul, products, [2]api.Rat{a.Low, b.Low}, [2]api.Rat{a.Low, b.High}, [2]api.Rat{a.High, b.Low}, [2]api.Rat{a.High, b.High})
	expect(t, "Mul", interval.Mul, a, b, want, err)
	hull := func(a, b api.Interval) (api.Interval, api.Errno) { return interval.Hull([]api.Interval{a, b}) }
	expect(t, "Hull", hull, a, b, spanned(lowA, highA, lowB, highB), api.OK)
	common, meets := none, lowA.Cmp(highB) <= 0 && lowB.Cmp(highA) <= 0
	if meets {
		common = api.Interval{Low: spanned(lowA, lowB).High, High: spanned(highA, highB).Low}
	}
	if got, ok := interval.Meet(a, b); got != common || ok != meets {
		t.Errorf("Meet of %s: %s, %t; want %s, %t", short(a, b), short(got), ok, short(common), meets)
	}
	for _, r := range []api.Rat{b.Low, b.High} {
		if want := lowA.Cmp(bigOf(r)) <= 0 && bigOf(r).Cmp(highA) <= 0; interval.Contains(a, r) != want {
			t.Errorf("Contains of %s and %s is not %t", short(a), short(api.Interval{Low: r, High: r}), want)
		}
	}
}

// intervals returns the intervals between all pairs of numbers, those of single numbers among them.
func intervals(numbers ...api.Rat) []api.Interval {
	var list []api.Interval
	for _, low := range numbers {
		for _, high := range numbers {
			if bigOf(low).Cmp(bigOf(high)) <= 0 {
				list = append(list, api.Interval{Low: low, High: high})
			}
		}
	}
	return list
}

func rats(texts ...string) []api.Rat {
	var list []api.Rat
	for _, text := range texts {
		list = append(list, rat(text))
	}
	return list
}

// P5.1: all pairs of intervals between small numbers: all signs, nested, equal, touching and apart.
func TestSmall(t *testing.T) {
	list := intervals(rats("-3", "-2", "-3/2", "-1", "-2/3", "-1/2", "0", "1/3", "1/2", "3/4", "1", "2", "5/2")...)
	for _, a := range list {
		if !interval.Valid(a) {
			t.Errorf("%s is valid", short(a))
		}
		for _, b := range list {
			agree(t, a, b)
		}
	}
}

// P5.1: all pairs of intervals between numbers of lengths at which limits begin.
func TestAround(t *testing.T) {
	list := intervals(rats("-"+digits("9", 1000), "-"+power(500), "-1", "-1/"+power(499), "0", "1/"+power(500), "2/3", power(499), digits("9", 1000))...)
	for _, a := range list {
		for _, b := range list {
			agree(t, a, b)
		}
	}
}

// P5.1: intervals between numbers of any digits and of different lengths.
func TestRandom(t *testing.T) {
	random := rand.New(rand.NewSource(1))
	size := func(most int) string {
		text := []byte{byte('1' + random.Intn(9))}
		for range random.Intn(most) {
			text = append(text, byte('0'+random.Intn(10)))
		}
		return string(text)
	}
	number := func(most int) *big.Rat {
		r, _ := new(big.Rat).SetString(strings.Repeat("-", random.Intn(2)) + size(most) + "/" + size(most))
		return r
	}
	for _, most := range []int{1, 2, 5, 20, 100, 400, 520, 1000} {
		for range 60 {
			agree(t, spanned(number(most), number(most)), spanned(number(most), number(most)))
			agree(t, spanned(number(most), number(most)), spanned(number(1001-most)))
		}
	}
}
