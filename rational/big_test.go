package rational_test

import (
	"math/big"
	"math/rand"
	"strings"
	"testing"

	"observatory/api"
	"observatory/rational"
)

func bigOf(a api.Rat) *big.Rat {
	num, _ := new(big.Int).SetString(string(a.Num), 10)
	den, _ := new(big.Int).SetString(string(a.Den), 10)
	if a.Neg {
		num.Neg(num)
	}
	return new(big.Rat).SetFrac(num, den)
}

func ratOf(r *big.Rat) api.Rat {
	num := new(big.Int).Abs(r.Num())
	return api.Rat{Neg: r.Sign() < 0, Num: api.Nat(num.String()), Den: api.Nat(r.Denom().String())}
}

// limited returns a result, unless one of the numbers on the way is too long.
func limited(result *big.Rat, onTheWay ...*big.Int) (api.Rat, api.Errno) {
	for _, n := range onTheWay {
		if len(new(big.Int).Abs(n).String()) > 1000 {
			return api.Rat{}, api.ErrLimit
		}
	}
	return ratOf(result), api.OK
}

func times(a, b *big.Int) *big.Int { return new(big.Int).Mul(a, b) }

// agree compares all operations on two valid numbers with those of math/big.
func agree(t *testing.T, a, b api.Rat) {
	t.Helper()
	x, y := bigOf(a), bigOf(b)
	left, right, den := times(x.Num(), y.Denom()), times(y.Num(), x.Denom()), times(x.Denom(), y.Denom())
	// Terms of opposite signs have no sum that is longer than the longest of them.
	want, err := limited(new(big.Rat).Add(x, y), left, right, den, new(big.Int).Add(left, right))
	expect(t, "Add", rational.Add, a, b, want, err)
	want, err = limited(new(big.Rat).Sub(x, y), left, right, den, new(big.Int).Sub(left, right))
	expect(t, "Sub", rational.Sub, a, b, want, err)
	want, err = limited(new(big.Rat).Mul(x, y), times(x.Num(), y.Num()), den)
	expect(t, "Mul", rational.Mul, a, b, want, err)
	if y.Sign() == 0 {
		expect(t, "Div", rational.Div, a, b, api.Rat{}, api.ErrZero)
	} else {
		want, err = limited(new(big.Rat).Quo(x, y), left, right)
		expect(t, "Div", rational.Div, a, b, want, err)
	}
	if got := rational.Compare(a, b); got != x.Cmp(y) {
		t.Errorf("Compare of %s and %s: %d", short(a), short(b), got)
	}
}

// reduced returns the quotient of two texts in lowest terms.
func reduced(num, den string) api.Rat {
	r, _ := new(big.Rat).SetString(num + "/" + den)
	return ratOf(r)
}

// around returns numbers of lengths around those at which the limits begin, with and without common divisors.
func around() []api.Rat {
	var list []api.Rat
	for _, text := range valid() {
		list = append(list, rat(text))
	}
	sizes := []string{"6", "18446744073709551616", power(250), digits("9", 499), power(499), "5" + digits("0", 499), power(500), digits("9", 500), power(998), "5" + digits("0", 999)}
	for i, num := range sizes {
		list = append(list, reduced(num, "1"), reduced("1", num), reduced("-"+num, "7"), reduced(num, sizes[len(sizes)-1-i]))
	}
	return list
}

// P4.1 to P4.3, P4.8: all pairs of numbers at which limits begin.
func TestAround(t *testing.T) {
	list := around()
	for _, a := range list {
		for _, b := range list {
			agree(t, a, b)
		}
	}
}

// P4.1, P4.2: all pairs of small numbers, where equal, opposite and whole results are frequent.
func TestSmall(t *testing.T) {
	var list []api.Rat
	for num := -12; num <= 12; num++ {
		for den := 1; den <= 12; den++ {
			list = append(list, ratOf(big.NewRat(int64(num), int64(den))))
		}
	}
	for i, a := range list {
		for _, b := range list[i%5:] {
			agree(t, a, b)
		}
	}
}

// P4.1, P4.2, P4.8: numbers of any digits, short ones, long ones, and of different lengths.
func TestRandom(t *testing.T) {
	random := rand.New(rand.NewSource(1))
	size := func(most int) string {
		text := []byte{byte('1' + random.Intn(9))}
		for range random.Intn(most) {
			text = append(text, byte('0'+random.Intn(10)))
		}
		return string(text)
	}
	number := func(mostNum, mostDen int) api.Rat {
		return reduced(strings.Repeat("-", random.Intn(2))+size(mostNum), size(mostDen))
	}
	for _, most := range []int{2, 5, 20, 100, 300, 500, 700, 1000} {
		for range 150 {
			agree(t, number(most, most), number(most, most))
			agree(t, number(most, most), number(1001-most, 1001-most))
			agree(t, number(most, 1), number(1, most))
		}
	}
}

// neighbours returns two numbers of up to some digits whose quotients in Euclid's algorithm are the same up to the last one: ones, and sometimes great ones.
func neighbours(random *rand.Rand, length, rare int) (*big.Rat, *big.Rat) {
	great := []int64{2, 3, 999999999, 1000000000, 1000000001, 999999999999999999}
	num, den := [2]*big.Int{big.NewInt(0), big.NewInt(1)}, [2]*big.Int{big.NewInt(1), big.NewInt(1)}
	for {
		quotient := big.NewInt(1)
		if rare > 0 && random.Intn(rare) == 0 {
			quotient.SetInt64(great[random.Intn(len(great))])
		}
		nextNum := new(big.Int).Add(times(quotient, num[1]), num[0])
		nextDen := new(big.Int).Add(times(quotient, den[1]), den[0])
		if len(nextDen.String()) > length {
			return new(big.Rat).SetFrac(num[0], den[0]), new(big.Rat).SetFrac(num[1], den[1])
		}
		num, den = [2]*big.Int{num[1], nextNum}, [2]*big.Int{den[1], nextDen}
	}
}

// P4.1 (D4), P4.5: numbers that differ as little as numbers of their length can.
func TestNeighbours(t *testing.T) {
	random := rand.New(rand.NewSource(2))
	for _, rare := range []int{0, 2, 6, 40} {
		for _, length := range []int{1, 2, 3, 30, 300, 1000} {
			a, b := neighbours(random, length, rare)
			minusA, minusB := new(big.Rat).Neg(a), new(big.Rat).Neg(b)
			for _, pair := range [][2]*big.Rat{{a, b}, {b, a}, {minusA, minusB}, {minusB, minusA}, {a, minusB}, {minusA, b}, {a, a}} {
				if got := rational.Compare(ratOf(pair[0]), ratOf(pair[1])); got != pair[0].Cmp(pair[1]) {
					t.Errorf("Compare of %s and %s: %d", short(ratOf(pair[0])), short(ratOf(pair[1])), got)
				}
			}
		}
	}
}
