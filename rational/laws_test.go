package rational_test

import (
	"math"
	"math/big"
	"math/rand"
	"strconv"
	"testing"

	"observatory/api"
	"observatory/natural"
	"observatory/rational"
)

// some returns numbers of both signs and different lengths, the longest of which have sums and products beyond the limits.
func some() []api.Rat {
	var list []api.Rat
	for _, text := range []string{
		"0", "1", "-1", "2", "-2", "1/2", "-1/2", "3/2", "2/3", "-4/9", "7/12", "1/1000000000", "-999999999/1000000000", "12345678901234567890/7", "-1/18446744073709551616",
		digits("9", 239) + "/7", "-7/" + power(240), digits("9", 400), "1/" + digits("3", 400), digits("9", 1000), "-1/" + digits("9", 1000),
	} {
		list = append(list, rat(text))
	}
	return list
}

// with applies an operation to a result, if there was one.
func with(do operation, a api.Rat, err api.Errno, b api.Rat) (api.Rat, api.Errno) {
	if err != api.OK {
		return api.Rat{}, err
	}
	return do(a, b)
}

func triples(visit func(a, b, c api.Rat)) {
	for _, a := range some() {
		for _, b := range some() {
			for _, c := range some() {
				visit(a, b, c)
			}
		}
	}
}

// P4.2: results are valid without an error, and the zero value, which is not valid, with one.
func TestForm(t *testing.T) {
	list := append(around(), malformed()...)
	for i, a := range list {
		for _, b := range list[i%7:] {
			for name, do := range map[string]operation{"Add": rational.Add, "Sub": rational.Sub, "Mul": rational.Mul, "Div": rational.Div} {
				if got, err := do(a, b); (err == api.OK) != rational.Valid(got) || err != api.OK && got != (api.Rat{}) {
					t.Errorf("%s of %s and %s: %s, error %d", name, short(a), short(b), short(got), err)
				}
			}
			for _, neg := range []bool{false, true} {
				if got, err := rational.Make(neg, a.Num, b.Num); (err == api.OK) != rational.Valid(got) || err != api.OK && got != (api.Rat{}) {
					t.Errorf("Make of %s and %s: %s, error %d", short(a), short(b), short(got), err)
				}
			}
		}
	}
}

// P4.3: sums and products depend neither on the order of two numbers nor on how three are grouped.
func TestOrders(t *testing.T) {
	for name, do := range map[string]operation{"sums": rational.Add, "products": rational.Mul} {
		triples(func(a, b, c api.Rat) {
			first, err := do(a, b)
			if second, other := do(b, a); first != second || err != other {
				t.Errorf("%s of %s and %s depend on their order", name, short(a), short(b))
			}
			left, leftErr := with(do, first, err, c)
			last, err := do(b, c)
			right, rightErr := with(do, last, err, a)
			if leftErr == api.OK && rightErr == api.OK && left != right {
				t.Errorf("%s of %s, %s and %s depend on their groups", name, short(a), short(b), short(c))
			}
		})
	}
}

// P4.3: products of sums are sums of products.
func TestProductOfSum(t *testing.T) {
	triples(func(a, b, c api.Rat) {
		sum, err := rational.Add(b, c)
		whole, wholeErr := with(rational.Mul, sum, err, a)
		first, firstErr := rational.Mul(a, b)
		second, secondErr := rational.Mul(a, c)
		if wholeErr != api.OK || firstErr != api.OK || secondErr != api.OK {
			return
		}
		if parts, err := rational.Add(first, second); err != api.ErrLimit && parts != whole {
			t.Errorf("%s times the sum of %s and %s: %s; want %s", short(a), short(b), short(c), short(whole), short(parts))
		}
	})
}

// P4.4: Sub takes back what Add adds, and Div what Mul multiplies.
func TestBack(t *testing.T) {
	back := func(name string, do, undo operation, a, b api.Rat) {
		t.Helper()
		result, err := do(a, b)
		if err != api.OK {
			return
		}
		if got, err := undo(result, b); err != api.ErrLimit && got != a {
			t.Errorf("%s of %s and %s, and back: %s, error %d", name, short(a), short(b), short(got), err)
		}
	}
	zero := rat("0")
	list := append(some(), around()...)
	for _, a := range list {
		for _, b := range some() {
			back("the sum", rational.Add, rational.Sub, a, b)
			back("the difference", rational.Sub, rational.Add, a, b)
			if b != zero {
				back("the product", rational.Mul, rational.Div, a, b)
				back("the quotient", rational.Div, rational.Mul, a, b)
			}
		}
		expect(t, "Sub", rational.Sub, a, zero, a, api.OK)
		expect(t, "Div", rational.Div, a, rat("1"), a, api.OK)
	}
}

// P4.5: valid numbers are ordered totally, and a sum, or a product with a positive number, does not change their order.
func TestTotalOrder(t *testing.T) {
	positive := func(a api.Rat) bool { return !a.Neg && a.Num != "0" }
	triples(func(a, b, c api.Rat) {
		order := rational.Compare(a, b)
		if order != -rational.Compare(b, a) || (order == 0) != (a == b) || order < -1 || order > 1 {
			t.Errorf("%s and %s: %d, and %d in the other order", short(a), short(b), order, rational.Compare(b, a))
		}
		if order <= 0 && rational.Compare(b, c) <= 0 && rational.Compare(a, c) > 0 {
			t.Errorf("%s, %s and %s are not in order", short(a), short(b), short(c))
		}
		moved := func(name string, do operation) {
			first, firstErr := do(a, c)
			second, secondErr := do(b, c)
			if firstErr == api.OK && secondErr == api.OK && rational.Compare(first, second) != order {
				t.Errorf("%s of %s and %s with %s change their order", name, short(a), short(b), short(c))
			}
		}
		moved("sums", rational.Add)
		moved("differences", rational.Sub)
		if positive(c) {
			moved("products", rational.Mul)
			moved("quotients", rational.Div)
		}
	})
}

// canonical says of a text, without the functions of the package, whether it is the string of a rational number.
func canonical(text string) bool {
	r, ok := new(big.Rat).SetString(text)
	return ok && r.RatString() == text
}

// P4.6: of all short texts, Parse accepts just those that are strings of numbers, and different numbers have different strings.
func TestStrings(t *testing.T) {
	texts := map[api.Rat]string{}
	var visit func(text string)
	visit = func(text string) {
		a, err := rational.Parse(text)
		switch {
		case !canonical(text):
			if a != (api.Rat{}) || err != api.ErrSyntax {
				t.Errorf("Parse of %q: %s, error %d", text, short(a), err)
			}
		case a != rat(text) || err != api.OK || !rational.Valid(a):
			t.Errorf("Parse of %q: %s, error %d", text, short(a), err)
		default:
			if got, err := rational.Text(a); got != text || err != api.OK {
				t.Errorf("Text of Parse of %q: %q, error %d", text, got, err)
			}
			if other, ok := texts[a]; ok {
				t.Errorf("%q and %q are strings of one number", text, other)
			}
			texts[a] = text
		}
		if len(text) < 5 {
			for _, symbol := range "-/+ 0126" {
				visit(text + string(symbol))
			}
		}
	}
	visit("")
	if len(texts) < 500 {
		t.Errorf("only %d texts are strings of numbers", len(texts))
	}
}

// P4.6: the strings of all bytes, alone and in numbers.
func TestBytes(t *testing.T) {
	for b := range 256 {
		for _, parts := range [][2]string{{"", ""}, {"", "3"}, {"3", ""}, {"3", "7"}, {"-3/", "7"}, {"3/7", ""}} {
			text := parts[0] + string([]byte{byte(b)}) + parts[1]
			digit := b >= '0' && b <= '9'
			want := digit && canonical(text) || b == '/' && text == "3/7" || b == '-' && text == "-3"
			if a, err := rational.Parse(text); (err == api.OK) != want || want && a != rat(text) {
				t.Errorf("Parse of %q: %s, error %d", text, short(a), err)
			}
		}
	}
}

// P4.7: Of agrees with Make, and quotients of equal ratios are equal.
func TestRatios(t *testing.T) {
	size := func(n int) api.Nat {
		if n < 0 {
			return api.Nat(strconv.Itoa(n)[1:])
		}
		return api.Nat(strconv.Itoa(n))
	}
	list := []int{0, 1, -1, 2, -2, 3, 7, -12, 18, 1000000000, -999999999, 1000000000000, math.MaxInt32, math.MinInt32, math.MaxInt - 1, math.MaxInt, math.MinInt, math.MinInt + 1}
	random := rand.New(rand.NewSource(3))
	for range 40 {
		list = append(list, random.Intn(1000)-500, int(random.Uint64()))
	}
	for _, num := range list {
		for _, den := range list {
			got, err := rational.Of(num, den)
			if want, wantErr := rational.Make((num < 0) != (den < 0), size(num), size(den)); got != want || err != wantErr {
				t.Errorf("Of %d and %d: %s, error %d; Make: %s, error %d", num, den, short(got), err, short(want), wantErr)
			}
			for _, factor := range []int{-1, 2, -3, 1000, -1000000007} {
				n, d := num%1000000000, den%1000000000
				once, onceErr := rational.Of(n, d)
				if again, err := rational.Of(n*factor, d*factor); again != once || err != onceErr {
					t.Errorf("Of %d and %d: %s; with the factor %d: %s", n, d, short(once), factor, short(again))
				}
			}
		}
	}
}

// P4.8: a product of integers has ErrLimit exactly if it has more than 1000 digits.
func TestProductsOfIntegers(t *testing.T) {
	products := func(a, b string) {
		n, m, product := new(big.Int), new(big.Int), new(big.Int)
		n.SetString(a, 10)
		m.SetString(b, 10)
		want, err := rat(product.Mul(n, m).String()), api.OK
		if len(product.Abs(product).String()) > 1000 {
			want, err = api.Rat{}, api.ErrLimit
		}
		expect(t, "Mul", rational.Mul, rat(a), rat(b), want, err)
	}
	for n := 0; n <= 1000; n += 20 {
		for around := -1; around <= 2; around++ {
			m := 1000 - n + around
			if n < 1 || n > 1000 || m < 1 || m > 1000 {
				continue
			}
			for _, sign := range []string{"", "-"} {
				products(sign+digits("9", n), digits("9", m))
				products(power(n-1), sign+power(m-1))
				products(sign+digits("3", n), sign+"3"+digits("0", m-1))
				products("0", sign+power(m-1))
			}
		}
	}
	products(digits("9", 1000), "1")
	products(power(999), "9")
	products(power(999), "-10")
	products("5"+digits("0", 999), "2")
	products("4"+digits("9", 999), "2")
}

// P4.8: what is a natural number's product, and no more, is an integer's.
func TestIntegersAsNaturals(t *testing.T) {
	for _, a := range some() {
		for _, b := range some() {
			product, err := natural.Mul(a.Num, b.Num)
			want := api.Rat{Num: product, Den: "1"}
			if err != api.OK {
				want = api.Rat{}
			}
			expect(t, "Mul", rational.Mul, api.Rat{Num: a.Num, Den: "1"}, api.Rat{Num: b.Num, Den: "1"}, want, err)
		}
	}
}

// P1, P3: for all arguments, valid or not, the functions end, and equal arguments yield equal results.
func TestAgain(t *testing.T) {
	type results struct {
		valid   bool
		order   int
		text    string
		numbers [7]api.Rat
		errors  [8]api.Errno
	}
	all := func(a, b api.Rat) results {
		var r results
		r.valid = rational.Valid(a)
		r.order = rational.Compare(a, b)
		for i, do := range []operation{rational.Add, rational.Sub, rational.Mul, rational.Div} {
			r.numbers[i], r.errors[i] = do(a, b)
		}
		r.numbers[4], r.errors[4] = rational.Make(a.Neg, a.Num, b.Num)
		r.numbers[5], r.errors[5] = rational.Of(len(a.Num)-9, len(b.Num)-len(a.Den))
		r.numbers[6], r.errors[6] = rational.Parse(string(a.Num) + "/" + string(b.Num))
		r.text, r.errors[7] = rational.Text(a)
		return r
	}
	list := append(malformed(), some()...)
	for i, a := range list {
		for _, b := range list[i%2:] {
			first := all(a, b)
			all(b, api.Rat{Neg: !a.Neg, Num: "9" + a.Num, Den: a.Den})
			copied := func(a api.Rat) api.Rat {
				return api.Rat{Neg: a.Neg, Num: api.Nat([]byte(a.Num)), Den: api.Nat([]byte(a.Den))}
			}
			if again := all(copied(a), copied(b)); again != first {
				t.Errorf("%s and %s: other results than before", short(a), short(b))
			}
		}
	}
}
