package natural_test

import (
	"math/big"
	"math/rand"
	"strings"
	"testing"

	"observatory/api"
	"observatory/natural"
)

func bigOf(a api.Nat) *big.Int {
	n, _ := new(big.Int).SetString(string(a), 10)
	return n
}

func natOf(n *big.Int) api.Nat { return api.Nat(n.String()) }

// agree compares all operations on two numbers with those of math/big.
func agree(t *testing.T, a, b api.Nat) {
	t.Helper()
	x, y := bigOf(a), bigOf(b)
	limited := func(n *big.Int) (api.Nat, api.Errno) {
		if want := natOf(n); len(want) <= 1000 {
			return want, api.OK
		}
		return "", api.ErrLimit
	}
	want, err := limited(new(big.Int).Add(x, y))
	check(t, "Add", natural.Add, []call{{a, b, want, err}})
	want, err = limited(new(big.Int).Mul(x, y))
	check(t, "Mul", natural.Mul, []call{{a, b, want, err}})
	check(t, "Gcd", natural.Gcd, []call{{a, b, natOf(new(big.Int).GCD(nil, nil, x, y)), api.OK}})
	if x.Cmp(y) < 0 {
		check(t, "Sub", natural.Sub, []call{{a, b, "", api.ErrRange}})
	} else {
		check(t, "Sub", natural.Sub, []call{{a, b, natOf(new(big.Int).Sub(x, y)), api.OK}})
	}
	if got := natural.Compare(a, b); got != x.Cmp(y) {
		t.Errorf("Compare of %s and %s: %d", short(a), short(b), got)
	}
	if b == "0" {
		return
	}
	wantQuotient, wantRest := new(big.Int).QuoRem(x, y, new(big.Int))
	if quotient, rest, err := natural.Div(a, b); quotient != natOf(wantQuotient) || rest != natOf(wantRest) || err != api.OK {
		t.Errorf("Div of %s and %s: %s, %s, error %d", short(a), short(b), short(quotient), short(rest), err)
	}
}

// around returns numbers on both sides of powers of ten and of two: there carries and borrows run through all digits.
func around() []api.Nat {
	list := []api.Nat{"0", "1", "2", "3", "7", digits("9", 1000)}
	for _, n := range []int{1, 8, 9, 10, 17, 18, 19, 20, 26, 27, 28, 36, 54, 200, 499, 500, 501, 990, 998, 999} {
		list = append(list, digits("9", n), power("1", n), power("1", n-1)+"1", power("5", n), "4"+digits("9", n), "1"+digits("9", n))
	}
	for _, n := range []uint{16, 30, 31, 32, 53, 62, 63, 64, 65, 127, 128, 1000, 3000} {
		two := new(big.Int).Lsh(big.NewInt(1), n)
		list = append(list, natOf(two), natOf(new(big.Int).Sub(two, big.NewInt(1))), natOf(new(big.Int).Add(two, big.NewInt(1))))
	}
	return list
}

// P3.1: all pairs of the numbers at which carries and borrows begin and end.
func TestAround(t *testing.T) {
	for _, a := range around() {
		for _, b := range around() {
			agree(t, a, b)
		}
	}
}

// P3.1 (C4): the highest digits of the divisor alone name a quotient that is too great.
func TestEstimates(t *testing.T) {
	for _, c := range [][2]api.Nat{
		{"1499999999000000000", "1499999999000000001"},
		{"999999998000000000000000001", "999999998000000000500000001"},
		{"999999998999999999499999999500000001", "499999999999999999999999998"},
		{"999999998499999999000000001999999998499999999", "999999998500000001999999998"},
		{"500000000000000000000000000000000000", "500000000000000000999999999"},
		{"499999999999999999999999999999999999", "500000000000000000000000001"},
		{"999999999999999999999999999999999999", "1000000000000000000000000001"},
	} {
		agree(t, c[0], c[1])
	}
}

// P3.1: numbers of few different digits, in which zeros, nines and halves follow each other.
func TestBlocks(t *testing.T) {
	random := rand.New(rand.NewSource(1))
	blocks := []string{"000000000", "999999999", "500000000", "499999999", "500000001", "000000001", "999999998", "0", "9", "123456789"}
	number := func(most int) api.Nat {
		var text strings.Builder
		for range 1 + random.Intn(most) {
			text.WriteString(blocks[random.Intn(len(blocks))])
		}
		if a := strings.TrimLeft(text.String(), "0"); a != "" {
			return api.Nat(a)
		}
		return "0"
	}
	for _, most := range []int{3, 6, 20, 100} {
		for range 20000 / most {
			agree(t, number(most), number(most))
			agree(t, number(most), number(3))
		}
	}
}

// P3.1: numbers of any digits, short ones, long ones, and of different lengths.
func TestRandom(t *testing.T) {
	random := rand.New(rand.NewSource(2))
	number := func(most int) api.Nat {
		text := []byte{byte('1' + random.Intn(9))}
		for range random.Intn(most) {
			text = append(text, byte('0'+random.Intn(10)))
		}
		return api.Nat(text)
	}
	for _, most := range []int{2, 12, 20, 40, 200, 1000} {
		for range 1000 {
			agree(t, number(most), number(most))
			agree(t, number(1000), number(most))
			agree(t, number(most), number(1000))
		}
	}
}

// P3.1 (C5): numbers for which Euclid's algorithm has given quotients: only ones, or great ones among small ones.
func TestGcdOfQuotients(t *testing.T) {
	random := rand.New(rand.NewSource(3))
	great := []int{2, 999999999, 1000000000, 1000000001, 999999999999999999, 1000000000000000000, 1000000000000000001}
	for _, rare := range []int{0, 2, 5, 20} {
		for range 300 {
			divisor := big.NewInt(1 + random.Int63n(1000000))
			a, b := divisor, new(big.Int)
			for length := 10 + random.Intn(900); len(a.String()) < length; {
				quotient := big.NewInt(1)
				if rare > 0 && random.Intn(rare) == 0 {
					quotient.SetInt64(int64(great[random.Intn(len(great))]))
				}
				a, b = new(big.Int).Add(quotient.Mul(quotient, a), b), a
			}
			check(t, "Gcd", natural.Gcd, []call{{natOf(a), natOf(b), natOf(divisor), api.OK}, {natOf(b), natOf(a), natOf(divisor), api.OK}})
		}
	}
}
