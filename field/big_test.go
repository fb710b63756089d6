package field_test

import (
	"math/big"
	"math/rand"
	"testing"

	"observatory/api"
	"observatory/field"
)

func bigOf(n int) *big.Int { return big.NewInt(int64(n)) }

func prime() *big.Int { return bigOf(api.Prime) }

// modulo returns the remainder from 0 to Prime - 1.
func modulo(n *big.Int) int { return int(n.Mod(n, prime()).Int64()) }

// agree compares all operations on elements with math/big.
func agree(t *testing.T, a, b int) {
	t.Helper()
	n, err := field.Add(a, b)
	expect(t, "Add", []int{a, b}, n, err, modulo(new(big.Int).Add(bigOf(a), bigOf(b))), api.OK)
	n, err = field.Mul(a, b)
	expect(t, "Mul", []int{a, b}, n, err, modulo(new(big.Int).Mul(bigOf(a), bigOf(b))), api.OK)
	if a > 0 {
		n, err = field.Inverse(a)
		expect(t, "Inverse", a, n, err, modulo(new(big.Int).ModInverse(bigOf(a), prime())), api.OK)
	}
}

// near returns the elements nearest to 0, to the middle of the field, and to Prime.
func near() []int {
	var list []int
	for i := range 25 {
		list = append(list, i, 1<<30-12+i, last-i)
	}
	return list
}

// P6.1 (F1, F2): all pairs of elements that are small, in the middle, or near Prime.
func TestNear(t *testing.T) {
	for _, a := range near() {
		for _, b := range near() {
			agree(t, a, b)
		}
	}
}

// P6.1 (F1, F2): elements of all sizes.
func TestRandom(t *testing.T) {
	random := rand.New(rand.NewSource(1))
	for size := 1; size <= 31; size++ {
		for range 300 {
			agree(t, random.Intn(1<<size)%api.Prime, random.Intn(api.Prime))
		}
	}
}

// P6.3: inverses of the first elements and of the last ones, each other element having none of them as its inverse.
func TestManyInverses(t *testing.T) {
	seen := map[int]int{}
	for i := 1; i <= 20000; i++ {
		for _, a := range []int{i, api.Prime - i} {
			n, err := field.Inverse(a)
			if product := new(big.Int).Mul(bigOf(a), bigOf(n)); err != api.OK || modulo(product) != 1 {
				t.Fatalf("Inverse of %d: %d, error %d", a, n, err)
			}
			if other, found := seen[n]; found {
				t.Fatalf("Inverse of %d and of %d: %d", other, a, n)
			}
			seen[n] = a
		}
	}
}

// valueOf adds up the products of the coefficients with the powers of x, before the remainder is taken.
func valueOf(poly []int, x int) int {
	value := new(big.Int)
	for i, c := range poly {
		power := new(big.Int).Exp(bigOf(x), bigOf(i), nil)
		value.Add(value, power.Mul(power, bigOf(c)))
	}
	return modulo(value)
}

// valueThrough adds up a polynomial for each point that has its Y there, and 0 at the other ones (Lagrange's form).
func valueThrough(points [][2]int, x int) int {
	value := new(big.Int)
	for i, point := range points {
		above, below := bigOf(point[1]), bigOf(1)
		for k, other := range points {
			if k != i {
				above.Mul(above, bigOf(x-other[0]))
				below.Mul(below, bigOf(point[0]-other[0]))
			}
		}
		below.ModInverse(below, prime())
		value.Add(value, above.Mul(above, below))
	}
	return modulo(value)
}

// anyElement returns an element that is often one at the end of the field.
func anyElement(random *rand.Rand) int {
	if random.Intn(4) == 0 {
		return edges()[random.Intn(len(edges()))]
	}
	return random.Intn(api.Prime)
}

func anyPoly(random *rand.Rand, n int) []int {
	poly := make([]int, n)
	for i := range poly {
		poly[i] = anyElement(random)
	}
	return poly
}

// anyPlaces returns different elements.
func anyPlaces(random *rand.Rand, n int) []int {
	var places []int
	seen := map[int]bool{}
	for len(places) < n {
		if x := anyElement(random); !seen[x] {
			seen[x] = true
			places = append(places, x)
		}
	}
	return places
}

// anyPoints returns points with different X and any Y.
func anyPoints(random *rand.Rand, n int) [][2]int {
	points := make([][2]int, n)
	for i, x := range anyPlaces(random, n) {
		points[i] = [2]int{x, anyElement(random)}
	}
	return points
}

// P6.1 (F3): polynomials of each length, at any elements.
func TestValues(t *testing.T) {
	random := rand.New(rand.NewSource(2))
	for n := range 17 {
		for range 20 {
			poly := anyPoly(random, n)
			for _, x := range append(edges(), anyElement(random)) {
				expectEval(t, poly, x, valueOf(poly, x), api.OK)
			}
		}
	}
}

// P6.1 (F4): points of each number, at any elements, and at their own X.
func TestThrough(t *testing.T) {
	random := rand.New(rand.NewSource(3))
	for n := 1; n <= 16; n++ {
		for range 20 {
			points := anyPoints(random, n)
			for _, x := range append(edges(), anyElement(random), points[n-1][0]) {
				expectThrough(t, points, x, valueThrough(points, x), api.OK)
			}
		}
	}
}

// P6.1 (F4): all lists of up to three points of a few elements, in all orders.
func TestSmallLists(t *testing.T) {
	few := []int{0, 1, 2, last}
	var longer func(points [][2]int)
	longer = func(points [][2]int) {
		for _, x := range append(few, 1<<30) {
			if len(points) > 0 {
				expectThrough(t, points, x, valueThrough(points, x), api.OK)
			}
		}
		if len(points) == 3 {
			return
		}
		for _, x := range few {
			taken := false
			for _, point := range points {
				taken = taken || point[0] == x
			}
			for _, y := range few {
				if !taken {
					longer(append(points[:len(points):len(points)], [2]int{x, y}))
				}
			}
		}
	}
	longer(nil)
}
