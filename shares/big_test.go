package shares_test

import (
	"math/big"
	"math/rand"
	"testing"

	"observatory/api"
)

func bigOf(n int) *big.Int { return big.NewInt(int64(n)) }

// modulo returns the remainder from 0 to Prime - 1.
func modulo(n *big.Int) int { return int(n.Mod(n, bigOf(api.Prime)).Int64()) }

// sharesOf adds up the products of the coefficients with the powers of each X.
func sharesOf(secret, total int, random []int) []api.Share {
	l := make([]api.Share, total)
	for i := range l {
		x := i + 1
		y := bigOf(secret)
		for k, c := range random {
			power := new(big.Int).Exp(bigOf(x), bigOf(k+1), nil)
			y.Add(y, power.Mul(power, bigOf(c)))
		}
		l[i] = api.Share{X: x, Y: modulo(y)}
	}
	return l
}

// valueThrough adds up a polynomial for each share that has its Y there, and 0 at the other ones (Lagrange's form).
func valueThrough(l []api.Share, x int) int {
	value := new(big.Int)
	for i, s := range l {
		above, below := bigOf(s.Y), bigOf(1)
		for k, other := range l {
			if k != i {
				above.Mul(above, bigOf(x-other.X))
				below.Mul(below, bigOf(s.X-other.X))
			}
		}
		below.ModInverse(below, bigOf(api.Prime))
		value.Add(value, above.Mul(above, below))
	}
	return modulo(value)
}

// joined returns what valid shares with different X are to be joined to.
func joined(l []api.Share, need int) (int, api.Errno) {
	if len(l) < need {
		return 0, api.ErrQuorum
	}
	for _, s := range l[need:] {
		if valueThrough(l[:need], s.X) != s.Y {
			return 0, api.ErrProof
		}
	}
	return valueThrough(l[:need], 0), api.OK
}

// P7.1 (G1): all numbers need and total, any elements.
func TestSplitOfAnyElements(t *testing.T) {
	random := rand.New(rand.NewSource(9))
	eachNeed(func(need, total int) {
		for _, secret := range append(edges(), anyElement(random), anyElement(random)) {
			list := anyList(random, need-1)
			expectSplit(t, secret, need, total, list, sharesOf(secret, total, list), api.OK)
		}
	})
}

// P7.1 (G2): any shares at any places; up to the number that is needed they always lie on a polynomial.
func TestJoinOfAnyPoints(t *testing.T) {
	random := rand.New(rand.NewSource(10))
	for need := 1; need <= 16; need++ {
		for n := range 17 {
			for range 10 {
				l := anyOf(random, inOrder(anyList(random, 16)...), n)
				want, err := joined(l, need)
				expectJoin(t, l, need, want, err)
			}
		}
	}
}

// P7.1 (G2): all lists of up to three shares at three places, with a few values, for each number that may be needed.
func TestJoinOfAllSmallLists(t *testing.T) {
	var l []api.Share
	for _, x := range []int{1, 2, 16} {
		for _, y := range []int{0, 1, 2, last} {
			l = append(l, api.Share{X: x, Y: y})
		}
	}
	var longer func(some []api.Share, twice bool)
	longer = func(some []api.Share, twice bool) {
		for need := 1; need <= 4; need++ {
			want, err := 0, api.ErrTwice
			if !twice {
				want, err = joined(some, need)
			}
			expectJoin(t, some, need, want, err)
		}
		if len(some) == 3 {
			return
		}
		for _, s := range l {
			again := twice
			for _, other := range some {
				again = again || other.X == s.X
			}
			longer(append(some[:len(some):len(some)], s), again)
		}
	}
	longer(nil, false)
}
