package field_test

import (
	"math"
	"slices"
	"testing"

	"observatory/api"
	"observatory/field"
)

const last = api.Prime - 1

type operation func(a, b int) (int, api.Errno)

// edges are elements at the ends of the field, and where products begin to exceed Prime, or 32 bits.
func edges() []int {
	return []int{0, 1, 2, 3, 7, 46340, 46341, 65535, 65536, 1<<30 - 1, 1 << 30, 1<<30 + 1, last - 46341, last - 3, last - 2, last - 1, last}
}

// strangers are no elements.
func strangers() []int {
	return []int{math.MinInt, -1 << 62, -1<<32 + 5, -2 * api.Prime, -api.Prime - 1, -api.Prime, -last, -2, -1, api.Prime, api.Prime + 1, api.Prime + 5, 2 * api.Prime, 1<<32 - 1, 1 << 32, 1<<32 + 5, 1 << 62, math.MaxInt}
}

// expect checks that a function returned a number and an error.
func expect(t *testing.T, name string, of any, got int, gotErr api.Errno, want int, wantErr api.Errno) {
	t.Helper()
	if got != want || gotErr != wantErr {
		t.Errorf("%s of %v: %d, error %d; want %d, error %d", name, of, got, gotErr, want, wantErr)
	}
}

// expectEval checks a value of a polynomial, which is left as it is.
func expectEval(t *testing.T, poly []int, x, want int, wantErr api.Errno) {
	t.Helper()
	before := slices.Clone(poly)
	got, err := field.Eval(poly, x)
	expect(t, "Eval", []any{before, x}, got, err, want, wantErr)
	if !slices.Equal(poly, before) {
		t.Errorf("Eval of %v changes its coefficients to %v", before, poly)
	}
}

// expectThrough checks a value of the polynomial through some points, which are left as they are.
func expectThrough(t *testing.T, points [][2]int, x, want int, wantErr api.Errno) {
	t.Helper()
	before := slices.Clone(points)
	got, err := field.Interpolate(points, x)
	expect(t, "Interpolate", []any{before, x}, got, err, want, wantErr)
	if !slices.Equal(points, before) {
		t.Errorf("Interpolate of %v changes its points to %v", before, points)
	}
}

// P6.1 (F1): sums and products below Prime, at it, and above it, in both orders.
func TestSumsAndProducts(t *testing.T) {
	for _, c := range []struct{ a, b, sum, product int }{
		{0, 0, 0, 0}, {0, 1, 1, 0}, {1, 1, 2, 1}, {2, 3, 5, 6}, {0, last, last, 0}, {1, last, 0, last}, {2, last, 1, last - 1}, {1, last - 1, last, last - 1}, {last, last, last - 1, 1}, {last - 1, last, last - 2, 2}, {last - 1, last - 1, last - 3, 4}, {last - 2, last - 1, last - 4, 6},
		{1 << 30, 1<<30 - 1, 0, 1610612735}, {1 << 30, 1 << 30, 1, 1 << 29}, {1 << 30, 1<<30 + 1, 2, 1610612736}, {1 << 30, 2, 1<<30 + 2, 1}, {46340, 46341, 92681, 2147441940}, {46341, 46341, 92682, 4634}, {65535, 65536, 131071, 2147418113}, {65536, 65536, 131072, 2}, {65535, 65537, 131072, 1}, {123456789, 987654321, 1111111110, 2137109934},
	} {
		for _, pair := range [][2]int{{c.a, c.b}, {c.b, c.a}} {
			n, err := field.Add(pair[0], pair[1])
			expect(t, "Add", pair, n, err, c.sum, api.OK)
			n, err = field.Mul(pair[0], pair[1])
			expect(t, "Mul", pair, n, err, c.product, api.OK)
		}
	}
}

// P6.1 (F2): inverses, and 0, which has none.
func TestInverse(t *testing.T) {
	for _, c := range []struct{ a, inverse int }{
		{1, 1}, {2, 1073741824}, {3, 1431655765}, {5, 858993459}, {7, 1840700269}, {10, 1503238553}, {46341, 2147020238}, {65535, 65537}, {65536, 32768}, {1000000007, 1681566032}, {1<<30 - 1, last - 1}, {1 << 30, 2}, {1234567890, 1542360551}, {last - 2, 715827882}, {last - 1, 1073741823}, {last, last},
	} {
		n, err := field.Inverse(c.a)
		expect(t, "Inverse", c.a, n, err, c.inverse, api.OK)
		n, err = field.Inverse(c.inverse)
		expect(t, "Inverse", c.inverse, n, err, c.a, api.OK)
	}
	n, err := field.Inverse(0)
	expect(t, "Inverse", 0, n, err, 0, api.ErrZero)
}

// P6.1 (F1, F2), P1: numbers that are no elements, in each argument, also beside each other.
func TestStrangers(t *testing.T) {
	for _, wrong := range strangers() {
		n, err := field.Inverse(wrong)
		expect(t, "Inverse", wrong, n, err, 0, api.ErrArg)
		for name, do := range map[string]operation{"Add": field.Add, "Mul": field.Mul} {
			for _, other := range slices.Concat(edges(), strangers()) {
				for _, pair := range [][2]int{{wrong, other}, {other, wrong}} {
					n, err := do(pair[0], pair[1])
					expect(t, name, pair, n, err, 0, api.ErrArg)
				}
			}
		}
	}
}

// countdown returns so many coefficients: Prime - 1, Prime - 2, and so on.
func countdown(n int) []int {
	poly := make([]int, n)
	for i := range poly {
		poly[i] = last - i
	}
	return poly
}

// power returns the coefficients of a power of x.
func power(exponent int) []int { return append(make([]int, exponent), 1) }

// P6.1 (F3): polynomials of no coefficient, of a few, and of 15 and 16, at 0, at Prime - 1 and elsewhere.
func TestEval(t *testing.T) {
	for _, c := range []struct {
		poly    []int
		x, want int
	}{
		{nil, 7, 0}, {nil, 0, 0}, {[]int{}, last, 0}, {make([]int, 0, 20), 1, 0}, {[]int{0}, 5, 0}, {[]int{5}, 0, 5}, {[]int{5}, last, 5}, {[]int{last}, 9, last}, {[]int{0, 1}, last, last}, {[]int{1, 1}, last, 0},
		{[]int{5, 3, 1}, 2, 15}, {[]int{5, 3, 1}, 0, 5}, {[]int{5, 3, 1}, 1, 9}, {[]int{5, 3, 1}, last, 3}, {[]int{1, 3, 5}, 2, 27}, {[]int{5, 3, 1, 0}, 2, 15}, {[]int{0, 5, 3, 1}, 2, 30}, {[]int{last, last, last}, last, last}, {[]int{0, 0, last}, 2, last - 3},
		{power(14), 2, 16384}, {power(15), 2, 32768}, {power(14), last, 1}, {power(15), last, last}, {power(15), 4, 1 << 30}, {power(15), 8, 1 << 14}, {make([]int, 16), 3, 0}, {slices.Repeat([]int{last}, 16), 1, last - 15},
		{countdown(15), 0, 2147483646}, {countdown(15), 1, 2147483527}, {countdown(15), 2, 2147024894}, {countdown(15), last, 2147483639}, {countdown(15), 123456789, 1443919916}, {countdown(16), 0, 2147483646}, {countdown(16), 1, 2147483511}, {countdown(16), 2, 2146500606}, {countdown(16), last, 8}, {countdown(16), 123456789, 1892408927},
	} {
		expectEval(t, c.poly, c.x, c.want, api.OK)
	}
}

// P6.1 (F3), P1: too many coefficients, and numbers that are no elements, at each place.
func TestEvalOfInvalid(t *testing.T) {
	for _, x := range edges() {
		expectEval(t, make([]int, 17), x, 0, api.ErrArg)
		expectEval(t, countdown(17), x, 0, api.ErrArg)
		expectEval(t, countdown(1000), x, 0, api.ErrArg)
	}
	for _, wrong := range strangers() {
		for n := range 18 {
			expectEval(t, countdown(n), wrong, 0, api.ErrArg)
			expectEval(t, make([]int, n), wrong, 0, api.ErrArg)
			for place := range n {
				for _, poly := range [][]int{countdown(n), make([]int, n)} {
					poly[place] = wrong
					for _, x := range []int{0, 1, 2, last, wrong} {
						expectEval(t, poly, x, 0, api.ErrArg)
					}
				}
			}
		}
	}
}

// skewed returns so many points that lie on no polynomial with fewer coefficients, their X from 0 upwards or from Prime - 1 downwards.
func skewed(n, base int, down bool) [][2]int {
	points := make([][2]int, n)
	y, step := 1, base
	for i := range points {
		x := i
		if down {
			x = last - i
		}
		points[i] = [2]int{x, y}
		// From the square of i to that of i + 1, the exponent of the base grows by 2 i + 1.
		y, step = y*step%api.Prime, step*base%api.Prime*base%api.Prime
	}
	return points
}

// P6.1 (F4): one point, a few, and 15 and 16, at 0, at Prime - 1, at the X of a point and elsewhere.
func TestInterpolate(t *testing.T) {
	for _, c := range []struct {
		points  [][2]int
		x, want int
	}{
		{[][2]int{{7, 9}}, 0, 9}, {[][2]int{{7, 9}}, 7, 9}, {[][2]int{{7, 9}}, last, 9}, {[][2]int{{0, last}}, 0, last}, {[][2]int{{last, last}}, 0, last}, {[][2]int{{0, 0}}, 5, 0},
		{[][2]int{{1, 9}, {2, 15}}, 0, 3}, {[][2]int{{2, 15}, {1, 9}}, 0, 3}, {[][2]int{{2, 15}, {1, 9}}, 2, 15}, {[][2]int{{1, 9}, {2, 9}}, 5, 9}, {[][2]int{{0, 0}, {last, last}}, 5, 5}, {[][2]int{{0, 1}, {last, 2}}, 1, 0}, {[][2]int{{0, 1}, {2, 0}}, 1, 1 << 30},
		{[][2]int{{1, 9}, {2, 15}, {3, 23}}, 0, 5}, {[][2]int{{1, 9}, {2, 15}, {3, 23}}, 10, 135}, {[][2]int{{3, 23}, {1, 9}, {2, 15}}, last, 3}, {[][2]int{{1, 9}, {2, 9}, {3, 9}}, 100, 9}, {[][2]int{{5, 0}, {6, 0}, {7, 1}}, 0, 15}, {[][2]int{{0, 1}, {1, 0}, {last, 0}}, 2, last - 2}, {[][2]int{{last, 0}, {0, 1}, {1, 0}}, 3, last - 7}, {[][2]int{{0, 1}, {1, 0}, {last, 0}}, last - 1, last - 2},
		{skewed(15, 7, false), 0, 1}, {skewed(15, 7, false), 1, 7}, {skewed(15, 7, false), 14, 2012754171}, {skewed(15, 7, false), 15, 525626655}, {skewed(15, 7, false), 16, 1745936897}, {skewed(15, 7, false), last, 1364256852}, {skewed(15, 7, false), 123456789, 692068604},
		{skewed(16, 7, false), 0, 1}, {skewed(16, 7, false), 15, 1399125485}, {skewed(16, 7, false), 16, 689532648}, {skewed(16, 7, false), last, 490758022}, {skewed(16, 7, false), 123456789, 1293370517},
		{skewed(16, 3, true), 0, 691106776}, {skewed(16, 3, true), 1, 249403878}, {skewed(16, 3, true), 15, 1157835239}, {skewed(16, 3, true), 16, 691747397}, {skewed(16, 3, true), last, 1}, {skewed(16, 3, true), 123456789, 1476675666},
	} {
		expectThrough(t, c.points, c.x, c.want, api.OK)
	}
}

// P6.1 (F4), P1: no point, too many points, and numbers that are no elements, at each place.
func TestInterpolateOfInvalid(t *testing.T) {
	for _, x := range edges() {
		for _, points := range [][][2]int{nil, {}, make([][2]int, 0, 20), skewed(17, 7, false), skewed(17, 3, true), make([][2]int, 17), make([][2]int, 1000)} {
			expectThrough(t, points, x, 0, api.ErrArg)
		}
	}
	for _, wrong := range strangers() {
		for n := range 18 {
			expectThrough(t, skewed(n, 7, false), wrong, 0, api.ErrArg)
			for place := range n {
				for side := range 2 {
					points := skewed(n, 7, false)
					points[place][side] = wrong
					for _, x := range []int{0, 1, n + 1, last, wrong} {
						expectThrough(t, points, x, 0, api.ErrArg)
					}
				}
			}
		}
	}
}

// P6.1 (F4): any two points with the same X, their Y being equal or not, at any x; equal Y alone are no error.
func TestInterpolateOfEqualX(t *testing.T) {
	for n := 2; n <= 16; n++ {
		for place := range n {
			for other := range place {
				for _, y := range []int{0, 1, 9, last} {
					points := skewed(n, 7, false)
					points[place][0], points[place][1] = points[other][0], y
					for _, x := range []int{0, points[other][0], n + 1, last} {
						expectThrough(t, points, x, 0, api.ErrTwice)
					}
					points[other][1] = y
					expectThrough(t, points, last, 0, api.ErrTwice)
				}
				points := skewed(n, 7, true)
				points[place], points[other] = [2]int{last, 5}, [2]int{last, 5}
				expectThrough(t, points, last, 0, api.ErrTwice)
			}
		}
		expectThrough(t, slices.Repeat([][2]int{{1, 9}}, n), 0, 0, api.ErrTwice)
		expectThrough(t, make([][2]int, n), 0, 0, api.ErrTwice)
		points := skewed(n, 7, false)
		for i := range points {
			points[i][1] = last
		}
		expectThrough(t, points, 100, last, api.OK)
	}
}

// P1: what is no valid argument is told before an X that is there twice.
func TestOrderOfErrors(t *testing.T) {
	for _, wrong := range strangers() {
		expectThrough(t, [][2]int{{1, 9}, {1, 9}}, wrong, 0, api.ErrArg)
		expectThrough(t, [][2]int{{wrong, 9}, {wrong, 9}}, 0, 0, api.ErrArg)
		expectThrough(t, [][2]int{{1, wrong}, {1, wrong}}, 0, 0, api.ErrArg)
		for n := 3; n <= 16; n++ {
			for place := range n {
				for side := range 2 {
					points := slices.Repeat([][2]int{{1, 9}}, n)
					points[place][side] = wrong
					expectThrough(t, points, 0, 0, api.ErrArg)
				}
			}
		}
	}
	for _, n := range []int{17, 18, 1000} {
		expectThrough(t, slices.Repeat([][2]int{{1, 9}}, n), 0, 0, api.ErrArg)
	}
}

// P3, and the rule that arguments are left as they are: what lies behind a slice makes no difference, and is not changed; a call leaves nothing to a later one.
func TestIndependence(t *testing.T) {
	poly, points := countdown(17), skewed(17, 7, false)
	for range 3 {
		expectEval(t, poly[:16], last, 8, api.OK)
		expectThrough(t, points[:16], 16, 689532648, api.OK)
		expectThrough(t, points[:15], 16, 1745936897, api.OK)
		expectThrough(t, points, 16, 0, api.ErrArg)
		expectEval(t, poly[1:4], 2, 2147483623, api.OK)
	}
	if !slices.Equal(poly, countdown(17)) || !slices.Equal(points, skewed(17, 7, false)) {
		t.Error("arguments are changed")
	}
}
