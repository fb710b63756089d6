package natural_test

import (
	"math"
	"strings"
	"testing"

	"observatory/api"
	"observatory/natural"
)

type operation func(a, b api.Nat) (api.Nat, api.Errno)

type call struct {
	a, b, want api.Nat
	err        api.Errno
}

func digits(digit string, n int) api.Nat { return api.Nat(strings.Repeat(digit, n)) }

// power returns a digit with n zeros after it.
func power(digit string, n int) api.Nat { return api.Nat(digit) + digits("0", n) }

// short makes messages with long numbers readable.
func short(a api.Nat) string {
	if len(a) <= 60 {
		return string(a)
	}
	return string(a[:20]) + ".." + string(a[len(a)-20:])
}

func check(t *testing.T, name string, do operation, calls []call) {
	t.Helper()
	for _, c := range calls {
		if got, err := do(c.a, c.b); got != c.want || err != c.err {
			t.Errorf("%s of %q and %q: %s, error %d; want %s, error %d", name, short(c.a), short(c.b), short(got), err, short(c.want), c.err)
		}
	}
}

// malformed are no natural numbers.
func malformed() []api.Nat {
	return []api.Nat{
		"", "00", "01", "007", "0000000000", "-1", "+1", "-0", " 1", "1 ", "1\n", "a", "1a", "a1", "1_000", "1,000", "1.0", "1e3", "0x1",
		"/", ":", "1/", "1:", "1/1", "\x00", "1\x00", "\xff", "\xb1", "\xd9\xa1", "1\xef\xbc\x91", "12345678901234567890x", "x12345678901234567890",
		digits("9", 1001), power("1", 1000), digits("0", 1000), "0" + digits("9", 999), digits("9", 999) + "x", digits("7", 100000),
	}
}

// P3.1 (C1): 1 to 1000 decimal digits, without a leading zero.
func TestValid(t *testing.T) {
	for _, a := range []api.Nat{"0", "1", "9", "10", "90", "1234567890", "999999999", "1000000000", "18446744073709551616", digits("9", 1000), power("1", 999)} {
		if !natural.Valid(a) {
			t.Errorf("%s is valid", short(a))
		}
	}
	for _, a := range malformed() {
		if natural.Valid(a) {
			t.Errorf("%q is not valid", short(a))
		}
	}
	for b := range 256 {
		isDigit := b >= '0' && b <= '9'
		if got := natural.Valid(api.Nat([]byte{byte(b)})); got != isDigit {
			t.Errorf("the byte %d: %t", b, got)
		}
		if got := natural.Valid(api.Nat([]byte{'1', byte(b), '2'})); got != isDigit {
			t.Errorf("the byte %d between digits: %t", b, got)
		}
	}
}

// P3.1 (C2): ints that are not negative have natural numbers.
func TestOf(t *testing.T) {
	for _, c := range []struct {
		n    int
		want api.Nat
		err  api.Errno
	}{
		{0, "0", api.OK}, {1, "1", api.OK}, {9, "9", api.OK}, {10, "10", api.OK}, {999999999, "999999999", api.OK}, {1000000000, "1000000000", api.OK},
		{1000000000000, "1000000000000", api.OK}, {1000000000001, "1000000000001", api.OK}, {math.MaxInt, "9223372036854775807", api.OK},
		{-1, "", api.ErrRange}, {-1000000000000, "", api.ErrRange}, {math.MinInt, "", api.ErrRange},
	} {
		if got, err := natural.Of(c.n); got != c.want || err != c.err {
			t.Errorf("Of %d: %s, error %d; want %s, error %d", c.n, got, err, c.want, c.err)
		}
	}
}

// P3.1 (C2): the values up to 1000000000000 are ints; what is not valid has no value, however great it looks.
func TestInt(t *testing.T) {
	for _, c := range []struct {
		a    api.Nat
		want int
		err  api.Errno
	}{
		{"0", 0, api.OK}, {"1", 1, api.OK}, {"1000000000", 1000000000, api.OK}, {"999999999999", 999999999999, api.OK}, {"1000000000000", 1000000000000, api.OK},
		{"1000000000001", 0, api.ErrRange}, {"2000000000000", 0, api.ErrRange}, {"9999999999999", 0, api.ErrRange}, {"10000000000000", 0, api.ErrRange},
		{"9223372036854775807", 0, api.ErrRange}, {"9223372036854775808", 0, api.ErrRange}, {"18446744073709551616", 0, api.ErrRange}, {"18446744073709551617", 0, api.ErrRange},
		{"340282366920938463463374607431768211457", 0, api.ErrRange}, {digits("9", 1000), 0, api.ErrRange},
		{"01000000000001", 0, api.ErrArg}, {"-1000000000001", 0, api.ErrArg}, {"1000000000001 ", 0, api.ErrArg},
	} {
		if got, err := natural.Int(c.a); got != c.want || err != c.err {
			t.Errorf("Int of %q: %d, error %d; want %d, error %d", short(c.a), got, err, c.want, c.err)
		}
	}
	for _, a := range malformed() {
		if got, err := natural.Int(a); got != 0 || err != api.ErrArg {
			t.Errorf("Int of %q: %d, error %d", short(a), got, err)
		}
	}
}

// P3.1 (C3): sums, up to 1000 digits.
func TestAdd(t *testing.T) {
	nines := digits("9", 1000)
	check(t, "Add", natural.Add, []call{
		{"0", "0", "0", api.OK}, {"0", "1", "1", api.OK}, {"1", "0", "1", api.OK}, {"1", "1", "2", api.OK}, {"5", "5", "10", api.OK}, {"999", "1", "1000", api.OK},
		{"999999999", "1", "1000000000", api.OK}, {"1", "999999999999999999", "1000000000000000000", api.OK}, {"18446744073709551615", "1", "18446744073709551616", api.OK},
		{digits("9", 999), "1", power("1", 999), api.OK}, {"1", digits("9", 999), power("1", 999), api.OK}, {digits("4", 1000), digits("5", 1000), nines, api.OK},
		{nines, "0", nines, api.OK}, {"0", nines, nines, api.OK}, {power("9", 999), digits("9", 999), nines, api.OK},
		{nines, "1", "", api.ErrLimit}, {"1", nines, "", api.ErrLimit}, {nines, nines, "", api.ErrLimit}, {power("5", 999), power("5", 999), "", api.ErrLimit}, {power("5", 999), power("4", 999), power("9", 999), api.OK},
	})
}

// P3.1 (C3): differences that are not negative.
func TestSub(t *testing.T) {
	nines := digits("9", 1000)
	check(t, "Sub", natural.Sub, []call{
		{"0", "0", "0", api.OK}, {"1", "0", "1", api.OK}, {"1", "1", "0", api.OK}, {"1000", "1", "999", api.OK}, {"1000000000", "1", "999999999", api.OK},
		{"1000000000000000000", "999999999", "999999999000000001", api.OK}, {"18446744073709551616", "1", "18446744073709551615", api.OK},
		{power("1", 999), "1", digits("9", 999), api.OK}, {nines, nines, "0", api.OK}, {nines, "0", nines, api.OK}, {nines, digits("9", 999), power("9", 999), api.OK}, {power("2", 999), power("1", 999), power("1", 999), api.OK},
		{"0", "1", "", api.ErrRange}, {"1", "2", "", api.ErrRange}, {"9", "10", "", api.ErrRange}, {"999999999", "1000000000", "", api.ErrRange}, {"0", nines, "", api.ErrRange}, {digits("9", 999), nines, "", api.ErrRange},
		{"12345678901234567890", "12345678901234567891", "", api.ErrRange},
	})
}

// P3.1 (C3): products, up to 1000 digits.
func TestMul(t *testing.T) {
	nines := digits("9", 1000)
	check(t, "Mul", natural.Mul, []call{
		{"0", "0", "0", api.OK}, {"0", "7", "0", api.OK}, {"7", "0", "0", api.OK}, {"1", "1", "1", api.OK}, {"1", "7", "7", api.OK}, {"12345678901234567890", "10", "123456789012345678900", api.OK},
		{"999999999", "999999999", "999999998000000001", api.OK}, {"1000000000", "1000000000", "1000000000000000000", api.OK}, {"18446744073709551616", "18446744073709551616", "340282366920938463463374607431768211456", api.OK},
		{digits("9", 500), digits("9", 500), digits("9", 499) + "8" + digits("0", 499) + "1", api.OK}, {digits("1", 500), "9", digits("9", 500), api.OK},
		{nines, "0", "0", api.OK}, {"0", nines, "0", api.OK}, {nines, "1", nines, api.OK}, {"1", nines, nines, api.OK}, {power("1", 499), power("1", 500), power("1", 999), api.OK},
		{power("1", 500), power("1", 500), "", api.ErrLimit}, {nines, "2", "", api.ErrLimit}, {"10", power("1", 999), "", api.ErrLimit}, {power("5", 999), "2", "", api.ErrLimit}, {nines, nines, "", api.ErrLimit}, {digits("9", 501), digits("9", 500), "", api.ErrLimit},
	})
}

// P3.1 (C4): quotients and remainders.
func TestDiv(t *testing.T) {
	nines := digits("9", 1000)
	for _, c := range []struct {
		a, b, quotient, rest api.Nat
		err                  api.Errno
	}{
		{"1000", "7", "142", "6", api.OK}, {"0", "1", "0", "0", api.OK}, {"0", "12345678901234567890", "0", "0", api.OK}, {"7", "1", "7", "0", api.OK}, {"7", "7", "1", "0", api.OK}, {"6", "7", "0", "6", api.OK},
		{"1000000000", "999999999", "1", "1", api.OK}, {"1000000000000000000", "1000000001", "999999999", "1", api.OK}, {"340282366920938463463374607431768211456", "18446744073709551616", "18446744073709551616", "0", api.OK},
		{"340282366920938463463374607431768211455", "18446744073709551616", "18446744073709551615", "18446744073709551615", api.OK},
		{nines, "1", nines, "0", api.OK}, {nines, "9", digits("1", 1000), "0", api.OK}, {nines, nines, "1", "0", api.OK}, {nines, digits("9", 500), "1" + digits("0", 499) + "1", "0", api.OK}, {digits("9", 999), nines, "0", digits("9", 999), api.OK}, {power("1", 999), nines, "0", power("1", 999), api.OK},
		{nines, power("1", 999), "9", digits("9", 999), api.OK}, {power("1", 999), digits("9", 999), "1", "1", api.OK},
		{"7", "0", "", "", api.ErrZero}, {"0", "0", "", "", api.ErrZero}, {nines, "0", "", "", api.ErrZero}, {"00", "0", "", "", api.ErrArg}, {"", "0", "", "", api.ErrArg}, {"7", "00", "", "", api.ErrArg}, {"7", "", "", "", api.ErrArg},
	} {
		if quotient, rest, err := natural.Div(c.a, c.b); quotient != c.quotient || rest != c.rest || err != c.err {
			t.Errorf("Div of %q and %q: %s, %s, error %d", short(c.a), short(c.b), short(quotient), short(rest), err)
		}
	}
}

// P3.1 (C5): the greatest common divisor, which is the other number if one of both is 0.
func TestGcd(t *testing.T) {
	nines := digits("9", 1000)
	check(t, "Gcd", natural.Gcd, []call{
		{"12", "18", "6", api.OK}, {"18", "12", "6", api.OK}, {"0", "5", "5", api.OK}, {"5", "0", "5", api.OK}, {"0", "0", "0", api.OK}, {"1", "0", "1", api.OK}, {"1", "1", "1", api.OK}, {"1", nines, "1", api.OK}, {nines, "1", "1", api.OK},
		{"17", "5", "1", api.OK}, {"7", "7", "7", api.OK}, {"1000000000", "10000000000000", "1000000000", api.OK}, {"1000000007", "1000000009", "1", api.OK}, {"340282366920938463463374607431768211456", "18446744073709551616", "18446744073709551616", api.OK},
		{nines, "0", nines, api.OK}, {"0", nines, nines, api.OK}, {nines, nines, nines, api.OK}, {nines, digits("9", 600), digits("9", 200), api.OK}, {digits("9", 999), nines, "9", api.OK}, {power("1", 999), power("6", 700), power("2", 700), api.OK}, {power("1", 999), nines, "1", api.OK},
	})
}

// P3.1 (C5): the order of the values, and 0 if there is no value.
func TestCompare(t *testing.T) {
	nines := digits("9", 1000)
	for _, c := range []struct {
		a, b api.Nat
		want int
	}{
		{"0", "0", 0}, {"0", "1", -1}, {"1", "0", 1}, {"9", "10", -1}, {"10", "9", 1}, {"19", "20", -1}, {"123", "122", 1}, {"999999999", "1000000000", -1}, {"2000000000000000000", "1999999999999999999", 1},
		{"120000000000000000000", "110000000000000000001", 1}, {nines, nines, 0}, {nines, digits("9", 999), 1}, {power("1", 999), nines, -1}, {digits("9", 999) + "8", nines, -1}, {"8" + digits("9", 999), nines, -1},
		{"07", "8", 0}, {"8", "07", 0}, {"", "1", 0}, {"1", "", 0}, {"x", "1", 0}, {nines, power("1", 1000), 0},
	} {
		if got := natural.Compare(c.a, c.b); got != c.want {
			t.Errorf("Compare of %q and %q: %d; want %d", short(c.a), short(c.b), got, c.want)
		}
	}
}

// P3.1, P1: an argument that is not valid is told before all else, and then all other results are empty.
func TestMalformed(t *testing.T) {
	nines := digits("9", 1000)
	operations := map[string]operation{"Add": natural.Add, "Sub": natural.Sub, "Mul": natural.Mul, "Gcd": natural.Gcd}
	for _, wrong := range malformed() {
		for _, other := range append(malformed(), "0", "1", "2", nines) {
			for name, do := range operations {
				check(t, name, do, []call{{wrong, other, "", api.ErrArg}, {other, wrong, "", api.ErrArg}})
			}
			for _, c := range [][2]api.Nat{{wrong, other}, {other, wrong}} {
				if quotient, rest, err := natural.Div(c[0], c[1]); quotient != "" || rest != "" || err != api.ErrArg {
					t.Errorf("Div of %q and %q: %s, %s, error %d", short(c[0]), short(c[1]), short(quotient), short(rest), err)
				}
				if got := natural.Compare(c[0], c[1]); got != 0 {
					t.Errorf("Compare of %q and %q: %d", short(c[0]), short(c[1]), got)
				}
			}
		}
	}
}
