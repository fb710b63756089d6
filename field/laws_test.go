package field_test

import (
	"math/rand"
	"slices"
	"testing"

	"observatory/api"
	"observatory/field"
)

// must returns the result of a call that has no error.
func must(t *testing.T, n int, err api.Errno) int {
	t.Helper()
	if err != api.OK {
		t.Fatalf("error %d", err)
	}
	return n
}

func add(t *testing.T, a, b int) int {
	t.Helper()
	n, err := field.Add(a, b)
	return must(t, n, err)
}

func mul(t *testing.T, a, b int) int {
	t.Helper()
	n, err := field.Mul(a, b)
	return must(t, n, err)
}

func inverse(t *testing.T, a int) int {
	t.Helper()
	n, err := field.Inverse(a)
	return must(t, n, err)
}

func eval(t *testing.T, poly []int, x int) int {
	t.Helper()
	n, err := field.Eval(poly, x)
	return must(t, n, err)
}

func through(t *testing.T, points [][2]int, x int) int {
	t.Helper()
	n, err := field.Interpolate(points, x)
	return must(t, n, err)
}

// P6.2: orders of two and three elements, products with sums, 0 and 1.
func TestLawsOfSumsAndProducts(t *testing.T) {
	for _, a := range edges() {
		if add(t, a, 0) != a || add(t, 0, a) != a || mul(t, a, 1) != a || mul(t, 1, a) != a {
			t.Errorf("0 or 1 changes %d", a)
		}
		for _, b := range edges() {
			if add(t, a, b) != add(t, b, a) || mul(t, a, b) != mul(t, b, a) {
				t.Errorf("the order of %d and %d matters", a, b)
			}
			for _, c := range edges() {
				if add(t, add(t, a, b), c) != add(t, a, add(t, b, c)) || mul(t, mul(t, a, b), c) != mul(t, a, mul(t, b, c)) {
					t.Errorf("the order of %d, %d and %d matters", a, b, c)
				}
				if mul(t, a, add(t, b, c)) != add(t, mul(t, a, b), mul(t, a, c)) {
					t.Errorf("the product of %d with the sum of %d and %d is not the sum of the products", a, b, c)
				}
			}
		}
	}
}

// P6.3: inverses of elements, of inverses and of products; products that are 0.
func TestLawsOfInverses(t *testing.T) {
	list := append(edges(), 5, 11, 641, 1234567890, 2000000011)
	for _, a := range list {
		for _, b := range list {
			if product := mul(t, a, b); (product == 0) != (a == 0 || b == 0) {
				t.Errorf("the product of %d and %d is %d", a, b, product)
			}
			if a > 0 && b > 0 && inverse(t, mul(t, a, b)) != mul(t, inverse(t, a), inverse(t, b)) {
				t.Errorf("the inverse of the product of %d and %d is not the product of the inverses", a, b)
			}
		}
		if a > 0 && (mul(t, a, inverse(t, a)) != 1 || inverse(t, inverse(t, a)) != a) {
			t.Errorf("the inverse of %d is %d", a, inverse(t, a))
		}
	}
}

// P6.4: values of sums of polynomials, of any two lengths.
func TestValuesOfSums(t *testing.T) {
	random := rand.New(rand.NewSource(4))
	for n := range 17 {
		for m := range n + 1 {
			long, short := anyPoly(random, n), anyPoly(random, m)
			sum := slices.Clone(long)
			for i, c := range short {
				sum[i] = add(t, sum[i], c)
			}
			for _, x := range append(edges(), anyElement(random)) {
				if eval(t, sum, x) != add(t, eval(t, long, x), eval(t, short, x)) {
					t.Errorf("the value of the sum of %v and %v at %d", long, short, x)
				}
			}
		}
	}
}

// P6.4: values of multiples, at 0, and with coefficients 0 at the end, within the limits.
func TestLawsOfValues(t *testing.T) {
	random := rand.New(rand.NewSource(5))
	for n := range 17 {
		poly := anyPoly(random, n)
		if n > 0 && eval(t, poly, 0) != poly[0] {
			t.Errorf("the value of %v at 0 is %d", poly, eval(t, poly, 0))
		}
		for _, x := range append(edges(), anyElement(random)) {
			for _, factor := range append(edges(), anyElement(random)) {
				multiple := slices.Clone(poly)
				for i := range multiple {
					multiple[i] = mul(t, multiple[i], factor)
				}
				if eval(t, multiple, x) != mul(t, eval(t, poly, x), factor) {
					t.Errorf("the value of %v, multiplied by %d, at %d", poly, factor, x)
				}
			}
			longer := slices.Clone(poly)
			for len(longer) < 16 {
				longer = append(longer, 0)
				if eval(t, longer, x) != eval(t, poly, x) {
					t.Errorf("the value of %v at %d is not that of %v", longer, x, poly)
				}
			}
			expectEval(t, append(longer, 0), x, 0, api.ErrArg)
		}
	}
}

// on returns points of a polynomial.
func on(t *testing.T, poly, places []int) [][2]int {
	t.Helper()
	points := make([][2]int, len(places))
	for i, x := range places {
		points[i] = [2]int{x, eval(t, poly, x)}
	}
	return points
}

// P6.5: polynomials with at most as many coefficients as there are points, at any elements.
func TestPointsOfPolynomials(t *testing.T) {
	random := rand.New(rand.NewSource(6))
	for n := 1; n <= 16; n++ {
		for m := range n + 1 {
			poly := anyPoly(random, m)
			points := on(t, poly, anyPlaces(random, n))
			for _, x := range append(edges(), anyElement(random)) {
				expectThrough(t, points, x, eval(t, poly, x), api.OK)
			}
		}
	}
}

// P6.5: the coefficients 0 at the end may be many, and places may be close together or far apart, 0 and Prime - 1 among them.
func TestPointsInARow(t *testing.T) {
	for n := 1; n <= 16; n++ {
		for m := range n + 1 {
			up, down := make([]int, n), make([]int, n)
			for i := range n {
				up[i], down[i] = i, last-i
			}
			for _, poly := range [][]int{countdown(m), make([]int, m)} {
				for _, places := range [][]int{up, down} {
					points := on(t, poly, places)
					for _, x := range append(edges(), n, last-n) {
						expectThrough(t, points, x, eval(t, poly, x), api.OK)
					}
				}
			}
		}
	}
}

// P6.6: the Y of each point at its X.
func TestOwnPlaces(t *testing.T) {
	random := rand.New(rand.NewSource(7))
	for n := 1; n <= 16; n++ {
		for _, points := range [][][2]int{anyPoints(random, n), anyPoints(random, n), anyPoints(random, n), skewed(n, 7, false), skewed(n, 3, true)} {
			for _, point := range points {
				expectThrough(t, points, point[0], point[1], api.OK)
			}
		}
	}
}

// orders calls a function with all orders of some points.
func orders(points [][2]int, with func([][2]int)) {
	var place func(i int)
	place = func(i int) {
		if i == len(points) {
			with(points)
		}
		for k := i; k < len(points); k++ {
			points[i], points[k] = points[k], points[i]
			place(i + 1)
			points[i], points[k] = points[k], points[i]
		}
	}
	place(0)
}

// P6.6: all orders of up to six points.
func TestAllOrders(t *testing.T) {
	random := rand.New(rand.NewSource(8))
	for n := 1; n <= 6; n++ {
		points := anyPoints(random, n)
		for _, x := range []int{0, last, anyElement(random), points[0][0]} {
			want := through(t, points, x)
			orders(points, func(other [][2]int) { expectThrough(t, other, x, want, api.OK) })
		}
	}
}

// P6.6: some orders of up to 16 points.
func TestManyOrders(t *testing.T) {
	random := rand.New(rand.NewSource(9))
	for n := 7; n <= 16; n++ {
		points := anyPoints(random, n)
		x := anyElement(random)
		want := through(t, points, x)
		slices.Reverse(points)
		expectThrough(t, points, x, want, api.OK)
		for range 50 {
			random.Shuffle(n, func(i, k int) { points[i], points[k] = points[k], points[i] })
			expectThrough(t, points, x, want, api.OK)
		}
	}
}

// P6.7: a further point on the polynomial, at any place of the list, makes no difference.
func TestFurtherPoints(t *testing.T) {
	random := rand.New(rand.NewSource(10))
	for n := 1; n <= 15; n++ {
		places := anyPlaces(random, n+1)
		points := on(t, anyPoly(random, n), places[:n])
		further := [2]int{places[n], through(t, points, places[n])}
		for place := range n + 1 {
			more := slices.Insert(slices.Clone(points), place, further)
			for _, x := range append(edges(), anyElement(random), further[0]) {
				expectThrough(t, more, x, through(t, points, x), api.OK)
			}
		}
	}
}

// P6.7: a further point that is not on the polynomial changes the value at each place but those of the others.
func TestFurtherPointsBeside(t *testing.T) {
	random := rand.New(rand.NewSource(11))
	for n := 1; n <= 15; n++ {
		places := anyPlaces(random, n+1)
		points := on(t, anyPoly(random, n), places[:n])
		y := through(t, points, places[n])
		for _, off := range []int{1, 2, 1 << 30, last} {
			further := [2]int{places[n], add(t, y, off)}
			more := slices.Insert(slices.Clone(points), random.Intn(n+1), further)
			for _, x := range slices.Concat(edges(), places, []int{anyElement(random), anyElement(random)}) {
				before, after := through(t, points, x), through(t, more, x)
				if same := slices.Contains(places[:n], x); (before == after) != same {
					t.Errorf("%v, and %v beside them: %d at %d, instead of %d", points, further, after, x, before)
				}
			}
		}
	}
}

// P6.7: points of a polynomial with more coefficients are each beside the one through the points before.
func TestFurtherPointsOfAPower(t *testing.T) {
	for n := 1; n <= 15; n++ {
		places := make([]int, n+1)
		for i := range places {
			places[i] = last - i
		}
		points := on(t, power(n), places)
		for _, x := range append(edges(), 100, 1234567890) {
			if same := x > last-n; (through(t, points[:n], x) == through(t, points, x)) != same {
				t.Errorf("a power of x at %d, by %d points and by one more", x, n)
			}
			expectThrough(t, points, x, eval(t, power(n), x), api.OK)
		}
	}
}
