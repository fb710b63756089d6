package natural_test

import (
	"cmp"
	"math/rand"
	"testing"

	"observatory/api"
	"observatory/natural"
)

// some returns numbers of different lengths, the longest of which have products and sums beyond 1000 digits.
func some() []api.Nat {
	return []api.Nat{
		"0", "1", "2", "9", "10", "999999999", "1000000000", "4294967296", "999999999999999999", "1000000000000000000", "18446744073709551616",
		"123456789012345678901234567890", "121932631112635269", digits("9", 40), power("1", 333), digits("9", 334), power("7", 499), digits("123", 166), digits("9", 500), power("4", 999), digits("9", 1000),
	}
}

// with applies an operation to a result, if there was one.
func with(do operation, a api.Nat, err api.Errno, b api.Nat) (api.Nat, api.Errno) {
	if err != api.OK {
		return "", err
	}
	return do(a, b)
}

func triples(visit func(a, b, c api.Nat)) {
	for _, a := range some() {
		for _, b := range some() {
			for _, c := range some() {
				visit(a, b, c)
			}
		}
	}
}

// P3.2: sums and products depend neither on the order of two numbers nor on that of three.
func TestOrders(t *testing.T) {
	for name, do := range map[string]operation{"sums": natural.Add, "products": natural.Mul} {
		triples(func(a, b, c api.Nat) {
			first, err := do(a, b)
			if second, other := do(b, a); first != second || err != other {
				t.Errorf("%s of %s and %s depend on their order", name, short(a), short(b))
			}
			left, leftErr := with(do, first, err, c)
			last, err := do(b, c)
			right, rightErr := with(do, last, err, a)
			if leftErr == api.OK && rightErr == api.OK && left != right {
				t.Errorf("%s of %s, %s and %s depend on their order", name, short(a), short(b), short(c))
			}
		})
	}
}

// P3.2: a product with a sum is the sum of the products.
func TestProductOfSum(t *testing.T) {
	triples(func(a, b, c api.Nat) {
		sum, err := natural.Add(b, c)
		whole, err := with(natural.Mul, sum, err, a)
		first, firstErr := natural.Mul(a, b)
		second, secondErr := natural.Mul(a, c)
		if err != api.OK || firstErr != api.OK || secondErr != api.OK {
			return
		}
		check(t, "the sum of products", natural.Add, []call{{first, second, whole, api.OK}})
	})
}

// P3.2: 0 changes no sum, and 1 no product.
func TestNeutral(t *testing.T) {
	for _, a := range append(some(), around()...) {
		check(t, "Add", natural.Add, []call{{a, "0", a, api.OK}, {"0", a, a, api.OK}})
		check(t, "Mul", natural.Mul, []call{{a, "1", a, api.OK}, {"1", a, a, api.OK}})
	}
}

// P3.3: Compare is a total order, in which just equal strings are equal.
func TestTotalOrder(t *testing.T) {
	triples(func(a, b, c api.Nat) {
		order := natural.Compare(a, b)
		if order != -natural.Compare(b, a) || (order == 0) != (a == b) || order < -1 || order > 1 {
			t.Errorf("%s and %s: %d, and %d in the other order", short(a), short(b), order, natural.Compare(b, a))
		}
		if order <= 0 && natural.Compare(b, c) <= 0 && natural.Compare(a, c) > 0 {
			t.Errorf("%s, %s and %s are not in order", short(a), short(b), short(c))
		}
	})
}

// P3.3: sums with a third number are ordered as the numbers are, and Sub takes back what Add adds.
func TestOrderOfSums(t *testing.T) {
	triples(func(a, b, c api.Nat) {
		first, firstErr := natural.Add(a, c)
		second, secondErr := natural.Add(b, c)
		if firstErr == api.OK {
			check(t, "Sub", natural.Sub, []call{{first, c, a, api.OK}, {first, a, c, api.OK}})
		}
		if firstErr == api.OK && secondErr == api.OK && natural.Compare(first, second) != natural.Compare(a, b) {
			t.Errorf("%s and %s change their order with %s", short(a), short(b), short(c))
		}
	})
}

// P3.4: Div finds the quotient and the remainder that a dividend was made of.
func TestDivision(t *testing.T) {
	triples(func(quotient, divisor, rest api.Nat) {
		product, err := natural.Mul(quotient, divisor)
		dividend, err := with(natural.Add, product, err, rest)
		if err != api.OK || natural.Compare(rest, divisor) >= 0 {
			return
		}
		if q, r, err := natural.Div(dividend, divisor); q != quotient || r != rest || err != api.OK {
			t.Errorf("Div of %s and %s: %s, %s, error %d; want %s, %s", short(dividend), short(divisor), short(q), short(r), err, short(quotient), short(rest))
		}
	})
}

// P3.5: the greatest common divisor divides both numbers, and has the multiples of both.
func TestCommonDivisors(t *testing.T) {
	triples(func(factor, a, b api.Nat) {
		divisor, err := natural.Gcd(a, b)
		if err != api.OK || (divisor == "0") != (a == "0" && b == "0") {
			t.Fatalf("Gcd of %s and %s: %s, error %d", short(a), short(b), short(divisor), err)
		}
		for _, n := range []api.Nat{a, b} {
			if _, rest, _ := natural.Div(n, divisor); divisor != "0" && rest != "0" {
				t.Errorf("Gcd of %s and %s does not divide %s", short(a), short(b), short(n))
			}
		}
		first, firstErr := natural.Mul(factor, a)
		second, secondErr := natural.Mul(factor, b)
		multiple, multipleErr := natural.Mul(factor, divisor)
		if firstErr == api.OK && secondErr == api.OK && multipleErr == api.OK {
			check(t, "Gcd", natural.Gcd, []call{{first, second, multiple, api.OK}})
		}
	})
}

// asInts checks that the operations on two numbers are those of ints.
func asInts(t *testing.T, x, y int) {
	t.Helper()
	a, _ := natural.Of(x)
	b, _ := natural.Of(y)
	result := func(name string, want int, got api.Nat, err api.Errno) {
		t.Helper()
		if want > api.MaxInt {
			return
		}
		if n, intErr := natural.Int(got); n != want || err != api.OK || intErr != api.OK {
			t.Errorf("%s of %d and %d: %s, error %d; want %d", name, x, y, short(got), err, want)
		}
	}
	result("the first", x, a, api.OK)
	sum, err := natural.Add(a, b)
	result("the sum", x+y, sum, err)
	if x >= y {
		difference, err := natural.Sub(a, b)
		result("the difference", x-y, difference, err)
	}
	if y == 0 || x <= api.MaxInt/y {
		product, err := natural.Mul(a, b)
		result("the product", x*y, product, err)
	}
	if y > 0 {
		quotient, rest, err := natural.Div(a, b)
		result("the quotient", x/y, quotient, err)
		result("the remainder", x%y, rest, err)
	}
	if got := natural.Compare(a, b); got != cmp.Compare(x, y) {
		t.Errorf("the order of %d and %d: %d", x, y, got)
	}
}

// P3.6: the operations are those of ints, up to 1000000000000.
func TestInts(t *testing.T) {
	for x := range 80 {
		for y := range 80 {
			asInts(t, x, y)
		}
	}
	random := rand.New(rand.NewSource(4))
	most := []int{10, 1000, 1000000, 1000000000, api.MaxInt}
	for range 20000 {
		asInts(t, random.Intn(most[random.Intn(5)]+1), random.Intn(most[random.Intn(5)]+1))
	}
	edges := []int{0, 1, 2, 999999, 1000000, 1000001, 999999999, 1000000000, 1000000001, 499999999999, 500000000000, 500000000001, 999999999999, 1000000000000}
	for _, x := range edges {
		for _, y := range edges {
			asInts(t, x, y)
		}
	}
}

// P3.7: results are valid, and a product has the digits of both factors, or one less.
func TestResults(t *testing.T) {
	list := around()
	for _, a := range list {
		for _, b := range list {
			sum, sumErr := natural.Add(a, b)
			difference, differenceErr := natural.Sub(a, b)
			product, productErr := natural.Mul(a, b)
			divisor, divisorErr := natural.Gcd(a, b)
			quotient, rest, divErr := natural.Div(a, b)
			for i, result := range []api.Nat{sum, difference, product, divisor, quotient, rest} {
				err := []api.Errno{sumErr, differenceErr, productErr, divisorErr, divErr, divErr}[i]
				if (err == api.OK) != natural.Valid(result) || err != api.OK && result != "" {
					t.Errorf("the result %d of %s and %s: %s, error %d", i, short(a), short(b), short(result), err)
				}
			}
			both := len(a) + len(b)
			if a == "0" || b == "0" || productErr != api.OK {
				continue
			}
			if len(product) != both && len(product) != both-1 {
				t.Errorf("the product of %s and %s has %d digits", short(a), short(b), len(product))
			}
		}
	}
	for _, n := range []int{0, 1, 999999999, 1000000000, 1<<63 - 1} {
		if a, err := natural.Of(n); !natural.Valid(a) || err != api.OK {
			t.Errorf("Of %d: %s, error %d", n, a, err)
		}
	}
}

// P1, P3: for all arguments, valid or not, the functions end, and equal arguments yield equal results.
func TestAgain(t *testing.T) {
	type results struct {
		valid              bool
		n, order           int
		of                 api.Nat
		values             [6]api.Nat
		errors             [5]api.Errno
		intError, ofErrors api.Errno
	}
	all := func(a, b api.Nat) results {
		var r results
		r.valid = natural.Valid(a)
		r.n, r.intError = natural.Int(a)
		r.of, r.ofErrors = natural.Of(len(a) - len(b))
		r.order = natural.Compare(a, b)
		for i, do := range []operation{natural.Add, natural.Sub, natural.Mul, natural.Gcd} {
			r.values[i], r.errors[i] = do(a, b)
		}
		r.values[4], r.values[5], r.errors[4] = natural.Div(a, b)
		return r
	}
	list := append(malformed(), some()...)
	for _, a := range list {
		for _, b := range list {
			first := all(a, b)
			if all("9"+b, a); first != all(api.Nat([]byte(a)), api.Nat([]byte(b))) {
				t.Errorf("%q and %q: other results than before", short(a), short(b))
			}
		}
	}
}
