package rational_test

import (
	"math"
	"strings"
	"testing"

	"observatory/api"
	"observatory/rational"
)

type operation func(a, b api.Rat) (api.Rat, api.Errno)

// call is a call of an operation, with numbers as texts; a call with an error has no result.
type call struct {
	a, b, want string
	err        api.Errno
}

func digits(digit string, n int) string { return strings.Repeat(digit, n) }

// power returns a power of ten.
func power(n int) string { return "1" + digits("0", n) }

// rat takes a text apart without Parse, and without a look at what it says. The empty text is the zero value.
func rat(text string) api.Rat {
	if text == "" {
		return api.Rat{}
	}
	size, neg := strings.CutPrefix(text, "-")
	num, den, divided := strings.Cut(size, "/")
	if !divided {
		den = "1"
	}
	return api.Rat{Neg: neg, Num: api.Nat(num), Den: api.Nat(den)}
}

// short makes messages with long numbers readable.
func short(a api.Rat) string {
	text := string(a.Num) + "/" + string(a.Den)
	if a.Neg {
		text = "-" + text
	}
	if len(text) > 90 {
		text = text[:40] + ".." + text[len(text)-40:]
	}
	return text
}

func expect(t *testing.T, name string, do operation, a, b, want api.Rat, wantErr api.Errno) {
	t.Helper()
	if got, err := do(a, b); got != want || err != wantErr {
		t.Errorf("%s of %s and %s: %s, error %d; want %s, error %d", name, short(a), short(b), short(got), err, short(want), wantErr)
	}
}

func check(t *testing.T, name string, do operation, calls []call) {
	t.Helper()
	for _, c := range calls {
		expect(t, name, do, rat(c.a), rat(c.b), rat(c.want), c.err)
	}
}

// valid are rational numbers in their only form.
func valid() []string {
	nines := digits("9", 1000)
	return []string{
		"0", "1", "-1", "2", "-2", "1/2", "-1/2", "3/4", "-3/4", "2/3", "5/6", "9/10", "10/9", "999999999/1000000000", "-12345678901234567890/7", "1/12345678901234567890",
		nines, "-" + nines, "1/" + nines, "-1/" + nines, nines + "/2", "2/" + nines, power(999) + "/" + nines, "-" + nines + "/" + power(999), digits("9", 999) + "8/" + nines,
	}
}

// malformed are no rational numbers.
func malformed() []api.Rat {
	nines := api.Nat(digits("9", 1000))
	list := []api.Rat{
		{}, {Neg: true}, {Num: "1"}, {Den: "1"}, {Num: "0"}, {Neg: true, Num: "0", Den: "1"}, {Neg: true, Num: "0", Den: "2"},
		{Num: nines, Den: nines}, {Num: nines, Den: "9"}, {Num: "9", Den: nines}, {Num: nines, Den: api.Nat(digits("9", 500))}, {Num: "0", Den: nines}, {Num: nines, Den: "0"}, {Neg: true, Num: nines + "0", Den: "1"}, {Num: "1", Den: nines + "0"}, {Num: nines + "9", Den: nines + "9"},
	}
	for _, text := range []string{
		"0/0", "1/0", "-1/0", "2/0", "0/2", "0/10", "2/2", "2/4", "-2/4", "3/6", "6/3", "4/2", "10/5", "-15/10", "12345678901234567890/10", "1000000014000000049/1000000007",
		"00", "01", "1/01", "01/2", "00/1", "0/01", "1/00", "--1", "+1", "1/+2", "1/-2", "-1/-2", "1//2", "1/2/3", " 1", "1 ", "1/ 2", "1/2 ", "1.0", "1e1", "a", "1/b", "1_0", "0x1", "1\x00", "\xff/1", "1/\xd9\xa1",
	} {
		list = append(list, rat(text))
	}
	return list
}

// P4.1 (D1): lowest terms, no Den of 0, and no negative zero.
func TestValid(t *testing.T) {
	for _, text := range valid() {
		if !rational.Valid(rat(text)) {
			t.Errorf("%s is valid", short(rat(text)))
		}
	}
	for _, a := range malformed() {
		if rational.Valid(a) {
			t.Errorf("%s is not valid", short(a))
		}
	}
	if one := (api.Rat{Num: "1/1", Den: "1"}); rational.Valid(one) {
		t.Error("1/1 is no natural number")
	}
}

// P4.1 (D1), P4.7: quotients of any ints.
func TestOf(t *testing.T) {
	const least, greatest = "9223372036854775808", "9223372036854775807"
	for _, c := range []struct {
		num, den int
		want     string
		err      api.Errno
	}{
		{6, -8, "-3/4", api.OK}, {0, -5, "0", api.OK}, {1, 0, "", api.ErrZero}, {-6, -8, "3/4", api.OK}, {-6, 8, "-3/4", api.OK}, {6, 8, "3/4", api.OK}, {8, 6, "4/3", api.OK},
		{0, 1, "0", api.OK}, {0, 7, "0", api.OK}, {1, 1, "1", api.OK}, {-1, 1, "-1", api.OK}, {1, -1, "-1", api.OK}, {-1, -1, "1", api.OK}, {7, 7, "1", api.OK}, {12, 4, "3", api.OK}, {4, 12, "1/3", api.OK},
		{math.MaxInt, 1, greatest, api.OK}, {math.MaxInt, -1, "-" + greatest, api.OK}, {1, math.MaxInt, "1/" + greatest, api.OK}, {math.MaxInt, math.MaxInt, "1", api.OK},
		{math.MinInt, 1, "-" + least, api.OK}, {math.MinInt, -1, least, api.OK}, {1, math.MinInt, "-1/" + least, api.OK}, {-1, math.MinInt, "1/" + least, api.OK}, {math.MinInt, math.MinInt, "1", api.OK},
		{math.MinInt, 2, "-4611686018427387904", api.OK}, {6, math.MinInt, "-3/4611686018427387904", api.OK}, {math.MinInt, math.MaxInt, "-" + least + "/" + greatest, api.OK}, {math.MaxInt, math.MinInt, "-" + greatest + "/" + least, api.OK},
		{0, math.MinInt, "0", api.OK}, {0, math.MaxInt, "0", api.OK},
		{0, 0, "", api.ErrZero}, {-1, 0, "", api.ErrZero}, {math.MinInt, 0, "", api.ErrZero}, {math.MaxInt, 0, "", api.ErrZero},
	} {
		if got, err := rational.Of(c.num, c.den); got != rat(c.want) || err != c.err {
			t.Errorf("Of %d and %d: %s, error %d; want %s, error %d", c.num, c.den, short(got), err, c.want, c.err)
		}
	}
}

// P4.1 (D1): quotients of natural numbers; what is no natural number is told before a division by zero.
func TestMake(t *testing.T) {
	nines := digits("9", 1000)
	for _, c := range []struct {
		num, den, want string
		err            api.Errno
	}{
		{"0", "1", "0", api.OK}, {"0", "4", "0", api.OK}, {"0", nines, "0", api.OK}, {"1", "1", "1", api.OK}, {"10", "4", "5/2", api.OK}, {"4", "10", "2/5", api.OK}, {"7", "7", "1", api.OK}, {"3", "7", "3/7", api.OK},
		{nines, nines, "1", api.OK}, {nines, "1", nines, api.OK}, {"1", nines, "1/" + nines, api.OK}, {nines, digits("9", 500), power(500)[:500] + "1", api.OK}, {digits("9", 999), nines, digits("1", 999) + "/" + digits("1", 1000), api.OK}, {power(999), "2" + digits("0", 999), "1/2", api.OK},
		{"1", "0", "", api.ErrZero}, {"0", "0", "", api.ErrZero}, {nines, "0", "", api.ErrZero},
		{"01", "2", "", api.ErrArg}, {"2", "01", "", api.ErrArg}, {"", "1", "", api.ErrArg}, {"1", "", "", api.ErrArg}, {"", "", "", api.ErrArg}, {"-1", "2", "", api.ErrArg}, {"1", "-2", "", api.ErrArg}, {"1/2", "1", "", api.ErrArg}, {nines + "0", "10", "", api.ErrArg}, {"10", nines + "0", "", api.ErrArg},
		{"", "0", "", api.ErrArg}, {"00", "0", "", api.ErrArg}, {"x", "0", "", api.ErrArg}, {nines + "0", "0", "", api.ErrArg}, {"0", "00", "", api.ErrArg},
	} {
		for _, neg := range []bool{false, true} {
			want := rat(c.want)
			want.Neg = neg && c.err == api.OK && c.want != "0"
			if got, err := rational.Make(neg, api.Nat(c.num), api.Nat(c.den)); got != want || err != c.err {
				t.Errorf("Make %t of %s: %s, error %d; want %s, error %d", neg, short(api.Rat{Num: api.Nat(c.num), Den: api.Nat(c.den)}), short(got), err, short(want), c.err)
			}
		}
	}
}

// P4.1 (D2): sums.
func TestAdd(t *testing.T) {
	check(t, "Add", rational.Add, []call{
		{"1/2", "1/3", "5/6", api.OK}, {"0", "0", "0", api.OK}, {"0", "7", "7", api.OK}, {"-7", "0", "-7", api.OK}, {"0", "-2/3", "-2/3", api.OK}, {"1", "1", "2", api.OK}, {"1", "-1", "0", api.OK}, {"-1", "1", "0", api.OK}, {"-1", "-1", "-2", api.OK},
		{"1/2", "1/2", "1", api.OK}, {"1/2", "-1/2", "0", api.OK}, {"-3/4", "3/4", "0", api.OK}, {"2/3", "2/3", "4/3", api.OK}, {"1/6", "1/10", "4/15", api.OK}, {"1/6", "1/3", "1/2", api.OK}, {"-1/2", "3/4", "1/4", api.OK}, {"1/2", "-3/4", "-1/4", api.OK}, {"-2/3", "-4/9", "-10/9", api.OK},
		{"5", "1/3", "16/3", api.OK}, {"-5", "1/3", "-14/3", api.OK}, {"5", "-12", "-7", api.OK}, {"7/2", "-1/2", "3", api.OK}, {"1/999999999", "1/1000000000", "1999999999/999999999000000000", api.OK},
		{"123456789012345678901234567890", "1/2", "246913578024691357802469135781/2", api.OK},
	})
}

// P4.1 (D2): differences.
func TestSub(t *testing.T) {
	check(t, "Sub", rational.Sub, []call{
		{"1/2", "1/2", "0", api.OK}, {"0", "0", "0", api.OK}, {"0", "7", "-7", api.OK}, {"0", "-7", "7", api.OK}, {"7", "0", "7", api.OK}, {"-7/2", "0", "-7/2", api.OK}, {"1", "1", "0", api.OK}, {"1", "-1", "2", api.OK}, {"-1", "1", "-2", api.OK}, {"-1", "-1", "0", api.OK},
		{"1/2", "1/3", "1/6", api.OK}, {"1/3", "1/2", "-1/6", api.OK}, {"-1/3", "-1/2", "1/6", api.OK}, {"-1/2", "-1/3", "-1/6", api.OK}, {"-1/2", "3/4", "-5/4", api.OK}, {"1/2", "-1/2", "1", api.OK}, {"1/6", "1/10", "1/15", api.OK}, {"5/6", "1/3", "1/2", api.OK},
		{"5", "1/3", "14/3", api.OK}, {"1/3", "5", "-14/3", api.OK}, {"7/2", "1/2", "3", api.OK}, {"123456789012345678901234567890", "1", "123456789012345678901234567889", api.OK},
	})
}

// P4.1 (D3): products.
func TestMul(t *testing.T) {
	check(t, "Mul", rational.Mul, []call{
		{"1/2", "1/3", "1/6", api.OK}, {"0", "0", "0", api.OK}, {"0", "-7/3", "0", api.OK}, {"-7/3", "0", "0", api.OK}, {"1", "-2/3", "-2/3", api.OK}, {"-2/3", "1", "-2/3", api.OK}, {"-1", "-2/3", "2/3", api.OK}, {"2/3", "-1", "-2/3", api.OK}, {"-1", "-1", "1", api.OK},
		{"2/3", "3/2", "1", api.OK}, {"2/3", "-3/2", "-1", api.OK}, {"2/3", "3/4", "1/2", api.OK}, {"-4/9", "-3/8", "1/6", api.OK}, {"6", "1/3", "2", api.OK}, {"1/3", "6", "2", api.OK}, {"5", "7", "35", api.OK}, {"1/999999999", "999999999/7", "1/7", api.OK},
		{digits("9", 1000), "0", "0", api.OK}, {"0", "1/" + digits("9", 1000), "0", api.OK},
	})
}

// P4.1 (D3): quotients; a division by zero is told after a number that is not valid, and before a limit.
func TestDiv(t *testing.T) {
	nines := digits("9", 1000)
	check(t, "Div", rational.Div, []call{
		{"-1/2", "3/4", "-2/3", api.OK}, {"1", "0", "", api.ErrZero}, {"0", "1", "0", api.OK}, {"0", "-7/3", "0", api.OK}, {"1", "-2/3", "-3/2", api.OK}, {"-2/3", "1", "-2/3", api.OK}, {"-2/3", "-1", "2/3", api.OK}, {"2/3", "-1", "-2/3", api.OK}, {"1", "1", "1", api.OK},
		{"2/3", "2/3", "1", api.OK}, {"2/3", "-2/3", "-1", api.OK}, {"-2/3", "-4/9", "3/2", api.OK}, {"6", "3", "2", api.OK}, {"3", "6", "1/2", api.OK}, {"1/2", "1/3", "3/2", api.OK}, {"1/6", "1/10", "5/3", api.OK}, {"0", nines, "0", api.OK}, {"0", "1/" + nines, "0", api.OK},
		{"0", "0", "", api.ErrZero}, {"-1/2", "0", "", api.ErrZero}, {nines, "0", "", api.ErrZero}, {"1/" + nines, "0", "", api.ErrZero}, {"2/4", "0", "", api.ErrArg}, {"-0", "0", "", api.ErrArg}, {"0", "0/2", "", api.ErrArg}, {"0", "-0", "", api.ErrArg}, {"1", "1/0", "", api.ErrArg},
	})
}

// P4.1 (D2): each of the three products, and the sum of the first two, with 1000 and with 1001 digits, also where the result is short.
func TestLimitsOfSums(t *testing.T) {
	nines, less := digits("9", 1000), digits("9", 999)+"8"
	half := "4" + digits("9", 999) // twice this number is nines - 1
	check(t, "Add", rational.Add, []call{
		{power(500), "1/" + power(499), "1" + digits("0", 998) + "1/" + power(499), api.OK}, {power(500), "1/" + power(500), "", api.ErrLimit}, {power(500), "-1/" + power(500), "", api.ErrLimit},
		{"1/" + power(499), power(500), "1" + digits("0", 998) + "1/" + power(499), api.OK}, {"1/" + power(500), power(500), "", api.ErrLimit}, {"-1/" + power(500), power(500), "", api.ErrLimit},
		{"1/" + power(499), "1/" + power(500), "11/" + power(500), api.OK}, {"1/" + power(500), "1/" + power(500), "", api.ErrLimit}, {"1/" + power(500), "-1/" + power(500), "", api.ErrLimit},
		{nines, "0", nines, api.OK}, {"0", nines, nines, api.OK}, {less, "1", nines, api.OK}, {nines, "1", "", api.ErrLimit}, {"1", nines, "", api.ErrLimit}, {"-" + nines, "-1", "", api.ErrLimit}, {nines, nines, "", api.ErrLimit},
		{nines, "-1", less, api.OK}, {"-1", nines, less, api.OK}, {"1", "-" + nines, "-" + less, api.OK}, {nines, "-" + nines, "0", api.OK},
		{digits("5", 1000), digits("4", 1000), nines, api.OK}, {digits("5", 1000), digits("4", 999) + "5", "", api.ErrLimit},
		{half + "/2", "1/2", "", api.ErrLimit}, {half + "/2", "-1/2", "24" + digits("9", 998), api.OK}, {nines + "/2", "1/2", "", api.ErrLimit}, {nines + "/2", "-1/2", "", api.ErrLimit},
		{"1/" + less, "1", nines + "/" + less, api.OK}, {"1/" + nines, "1", "", api.ErrLimit}, {"1/" + nines, "-1", "-" + less + "/" + nines, api.OK},
	})
	check(t, "Sub", rational.Sub, []call{
		{power(500), "-1/" + power(499), "1" + digits("0", 998) + "1/" + power(499), api.OK}, {power(500), "1/" + power(500), "", api.ErrLimit}, {"1/" + power(500), power(500), "", api.ErrLimit},
		{"1/" + power(499), "1/" + power(500), "9/" + power(500), api.OK}, {"1/" + power(500), "1/" + power(500), "", api.ErrLimit},
		{nines, "1", less, api.OK}, {"1", nines, "-" + less, api.OK}, {"-" + nines, "-1", "-" + less, api.OK}, {nines, nines, "0", api.OK}, {nines, "0", nines, api.OK}, {"0", nines, "-" + nines, api.OK},
		{less, "-1", nines, api.OK}, {"-1", less, "-" + nines, api.OK}, {nines, "-1", "", api.ErrLimit}, {"-1", nines, "", api.ErrLimit}, {"-" + nines, "1", "", api.ErrLimit}, {nines, "-" + nines, "", api.ErrLimit}, {half + "/2", "-1/2", "", api.ErrLimit},
	})
}

// P4.1 (D3): each of the two products with 1000 and with 1001 digits, also where the result is short.
func TestLimitsOfProducts(t *testing.T) {
	nines, more := digits("9", 1000), "1"+digits("0", 499)+"1" // more is 10^500 + 1
	check(t, "Mul", rational.Mul, []call{
		{power(500), power(499), power(999), api.OK}, {power(500), power(500), "", api.ErrLimit}, {"-" + power(500), power(500), "", api.ErrLimit}, {nines, "2", "", api.ErrLimit}, {power(999) + "/3", "9", "3" + digits("0", 999), api.OK}, {power(999) + "/3", "12", "", api.ErrLimit},
		{"1/" + power(500), "1/" + power(499), "1/" + power(999), api.OK}, {"1/" + power(500), "1/" + power(500), "", api.ErrLimit}, {"1/" + nines, "1/2", "", api.ErrLimit}, {"3/" + power(999), "1/9", "1/3" + digits("0", 999), api.OK}, {"3/" + power(999), "1/12", "", api.ErrLimit},
		{power(999), "1/" + power(999), "1", api.OK}, {nines, "-1/" + nines, "-1", api.OK}, {power(499) + "/" + more, more + "/" + power(499), "1", api.OK}, {power(500) + "/" + more, more + "/" + power(500), "", api.ErrLimit}, {nines + "/2", "2", "", api.ErrLimit}, {"2/" + nines, "1/2", "", api.ErrLimit},
	})
	check(t, "Div", rational.Div, []call{
		{power(500), "1/" + power(499), power(999), api.OK}, {power(500), "1/" + power(500), "", api.ErrLimit}, {nines, "1/2", "", api.ErrLimit}, {"1/" + power(500), power(499), "1/" + power(999), api.OK}, {"1/" + power(500), power(500), "", api.ErrLimit}, {"1/" + nines, "2", "", api.ErrLimit},
		{power(999), power(999), "1", api.OK}, {nines, "-" + nines, "-1", api.OK}, {power(499) + "/" + more, power(499) + "/" + more, "1", api.OK}, {power(500) + "/" + more, power(500) + "/" + more, "", api.ErrLimit}, {nines + "/2", "1/2", "", api.ErrLimit}, {"2/" + nines, "2", "", api.ErrLimit}, {"1/2", nines + "/2", "", api.ErrLimit}, {nines, nines + "/2", "", api.ErrLimit},
	})
}

// P4.1, P1: a number that is not valid is told before all else, and then the result is the zero value.
func TestMalformed(t *testing.T) {
	operations := map[string]operation{"Add": rational.Add, "Sub": rational.Sub, "Mul": rational.Mul, "Div": rational.Div}
	others := malformed()
	for _, text := range []string{"0", "1", "-1", "2/3", digits("9", 1000), "1/" + digits("9", 1000)} {
		others = append(others, rat(text))
	}
	for _, wrong := range malformed() {
		for _, other := range others {
			for name, do := range operations {
				expect(t, name, do, wrong, other, api.Rat{}, api.ErrArg)
				expect(t, name, do, other, wrong, api.Rat{}, api.ErrArg)
			}
			if rational.Compare(wrong, other) != 0 || rational.Compare(other, wrong) != 0 {
				t.Errorf("Compare of %s and %s is not 0", short(wrong), short(other))
			}
		}
		if text, err := rational.Text(wrong); text != "" || err != api.ErrArg {
			t.Errorf("Text of %s: %q, error %d", short(wrong), text, err)
		}
	}
}

// P4.1 (D4), P4.5: numbers in their order.
func TestCompare(t *testing.T) {
	nines := digits("9", 1000)
	ascending := []string{
		"-" + nines, "-" + digits("9", 999) + "8", "-10", "-9", "-3/2", "-1", "-" + digits("9", 999) + "8/" + nines, "-3/4", "-2/3", "-1/2", "-1/3", "-1/" + digits("9", 999) + "8", "-1/" + nines,
		"0", "1/" + nines, "1/" + digits("9", 999) + "8", "1/12345678901234567890", "1/10", "1/9", "1/3", "2/5", "1/2", "3/5", "2/3", "3/4", digits("9", 998) + "8/" + digits("9", 999), digits("9", 999) + "8/" + nines, "1",
		nines + "/" + digits("9", 999) + "8", digits("9", 999) + "/" + digits("9", 998) + "8", "10/9", "3/2", "2", "5/2", "9", "10", digits("9", 999), power(999), "1" + digits("0", 998) + "1", digits("9", 999) + "8", nines,
	}
	for i, a := range ascending {
		for k, b := range ascending {
			want := 0
			if i < k {
				want = -1
			} else if i > k {
				want = 1
			}
			if got := rational.Compare(rat(a), rat(b)); got != want {
				t.Errorf("Compare of %s and %s: %d; want %d", short(rat(a)), short(rat(b)), got, want)
			}
		}
	}
}

// P4.1 (D5): the string of a number, and back.
func TestText(t *testing.T) {
	for _, text := range valid() {
		if got, err := rational.Text(rat(text)); got != text || err != api.OK {
			t.Errorf("Text of %s: %q, error %d", short(rat(text)), got, err)
		}
		if got, err := rational.Parse(text); got != rat(text) || err != api.OK {
			t.Errorf("Parse of %q: %s, error %d", text, short(got), err)
		}
	}
}

// P4.1 (D5): strings with needless signs, zeros, blanks or a Den of 1, and those of no number.
func TestParse(t *testing.T) {
	nines := digits("9", 1000)
	for _, text := range []string{
		"", "-", "/", "-/", "6/8", "5/1", "-5/1", "0/1", "-0", "-0/1", "0/2", "1/0", "-1/0", "0/0", "2/2", "00", "01", "-01", "1/02", "01/2", "+1", "+1/2", "1/+2", "1/-2", "-1/-2", "--1", "- 1", " 1", "1 ", "1/ 2", "1 /2", "1/2\n", "\t1", "1/", "/1", "-/1", "1//2", "1/2/", "1/2/3", "1/2/1",
		"1.5", "1e3", "0x1", "1_000", "1,000", "a", "1/a", "1\x00", "\x00", "\xff", "1/\xff", "\xd9\xa1", "\xe2\x88\x921", "1-", "1-2", "3/-", "-1-",
		nines + "0", "1/" + nines + "0", nines + "/" + nines, "0" + digits("9", 999), nines + "/1", nines + "/9", digits("9", 100000), "1/" + digits("7", 100000), digits("-", 1000), digits("/", 1000), "-" + digits("0", 1000),
	} {
		if got, err := rational.Parse(text); got != (api.Rat{}) || err != api.ErrSyntax {
			t.Errorf("Parse of %q: %s, error %d", text[:min(len(text), 60)], short(got), err)
		}
	}
}
