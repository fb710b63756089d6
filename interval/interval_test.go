package interval_test

import (
	"slices"
	"strings"
	"testing"

	"observatory/api"
	"observatory/interval"
)

type operation func(a, b api.Interval) (api.Interval, api.Errno)

// call is a call of an operation; a call with an error has no result.
type call struct {
	a, b, want api.Interval
	err        api.Errno
}

// none is what comes with an error.
var none api.Interval

func digits(digit string, n int) string { return strings.Repeat(digit, n) }

// power returns a power of ten.
func power(n int) string { return "1" + digits("0", n) }

// rat takes a text apart without package rational, and without a look at what it says. The empty text is the zero value.
func rat(text string) api.Rat {
	if text == "" {
		return api.Rat{}
	}
	size, neg := strings.CutPrefix(text, "-")
	num, den, divided := strings.Cut(size, "/")
	if !divided {
		den = "1"
	}
	return api.Rat{Neg: neg, Num: api.Nat(num), Den: api.Nat(den)}
}

func of(low, high string) api.Interval { return api.Interval{Low: rat(low), High: rat(high)} }

// short makes messages with long numbers readable.
func short(list ...api.Interval) string {
	var texts []string
	for _, a := range list {
		for _, r := range []api.Rat{a.Low, a.High} {
			text := string(r.Num) + "/" + string(r.Den)
			if r.Neg {
				text = "-" + text
			}
			if len(text) > 50 {
				text = text[:20] + ".." + text[len(text)-20:]
			}
			texts = append(texts, text)
		}
	}
	return strings.Join(texts, " ")
}

func expect(t *testing.T, name string, do operation, a, b, want api.Interval, wantErr api.Errno) {
	t.Helper()
	if got, err := do(a, b); got != want || err != wantErr {
		t.Errorf("%s of %s: %s, error %d; want %s, error %d", name, short(a, b), short(got), err, short(want), wantErr)
	}
}

// check tries each call in both orders.
func check(t *testing.T, name string, do operation, calls []call) {
	t.Helper()
	for _, c := range calls {
		expect(t, name, do, c.a, c.b, c.want, c.err)
		expect(t, name, do, c.b, c.a, c.want, c.err)
	}
}

// malformedNumbers are no rational numbers.
func malformedNumbers() []api.Rat {
	list := []api.Rat{{}, {Num: "1"}, {Den: "1"}, {Num: "0"}, {Neg: true}, {Num: api.Nat(digits("9", 1001)), Den: "1"}, {Num: "1", Den: api.Nat(digits("9", 1001))}}
	for _, text := range []string{"-0", "0/2", "1/0", "-1/0", "0/0", "2/4", "-6/3", "1/1/1", "01", "1/02", "--1", "1/-2", "+1", " 1", "1.5", "a", "1\x00", "\xff"} {
		list = append(list, rat(text))
	}
	return list
}

// malformed are no intervals.
func malformed() []api.Interval {
	nines := digits("9", 1000)
	list := []api.Interval{
		of("2", "1"), of("1", "-1"), of("0", "-1"), of("1", "0"), of("-1", "-2"), of("1/2", "1/3"), of("-1/3", "-1/2"), of("3/4", "2/3"), of("1/"+nines, "0"), of("1/"+digits("9", 999), "1/"+nines), of(nines, digits("9", 999)+"8"), of("1", digits("9", 999)+"8/"+nines),
	}
	for _, wrong := range malformedNumbers() {
		for _, other := range append([]api.Rat{wrong}, rat("-5"), rat("0"), rat("1"), rat("5/2"), rat(nines)) {
			list = append(list, api.Interval{Low: wrong, High: other}, api.Interval{Low: other, High: wrong})
		}
	}
	return list
}

// P5.1 (E1): two valid ends, of which the first one is not the greater one.
func TestValid(t *testing.T) {
	nines, less := digits("9", 1000), digits("9", 999)+"8"
	for _, a := range []api.Interval{
		of("1", "1"), of("0", "0"), of("-1", "-1"), of("-2/3", "-2/3"), of("0", "1"), of("-1", "0"), of("-1", "1"), of("1", "2"), of("-2", "-1"), of("-2", "1/2"), of("1/3", "1/2"), of("-1/2", "-1/3"), of("2/3", "3/4"), of("9", "10"), of("-10", "-9"),
		of(nines, nines), of(less, nines), of("-"+nines, "-"+less), of("-"+nines, nines), of("1/"+nines, "1/"+less), of("0", "1/"+nines), of(less+"/"+nines, "1"), of("-"+nines, "1/"+nines),
	} {
		if !interval.Valid(a) {
			t.Errorf("%s is valid", short(a))
		}
	}
	for _, a := range malformed() {
		if interval.Valid(a) {
			t.Errorf("%s is not valid", short(a))
		}
	}
}

// P5.1 (E1): numbers below an interval, at its ends, in it, and above it.
func TestContains(t *testing.T) {
	nines, less := digits("9", 1000), digits("9", 999)+"8"
	for _, c := range []struct {
		a               api.Interval
		inside, outside []string
	}{
		{of("-1/2", "3"), []string{"-1/2", "-1/3", "0", "1/2", "1", "2", "5/2", "3"}, []string{"-1", "-2/3", "-3", "7/2", "4", "10", "-" + nines, nines}},
		{of("1", "1"), []string{"1"}, []string{"0", "-1", "2", "1/2", "3/2", less + "/" + nines, nines + "/" + less}},
		{of("0", "0"), []string{"0"}, []string{"1", "-1", "1/" + nines, "-1/" + nines}},
		{of("-3", "-1"), []string{"-3", "-2", "-3/2", "-1"}, []string{"-4", "-10", "-1/2", "0", "1", "2", "3", "-" + less + "/" + nines}},
		{of("1/3", "2/3"), []string{"1/3", "2/5", "1/2", "3/5", "2/3"}, []string{"1/4", "0", "-1/2", "3/4", "1"}},
		{of("-"+nines, nines), []string{"-" + nines, nines, "0", "-" + less, less, "1/" + nines}, nil},
		{of(less, less), []string{less}, []string{nines, digits("9", 999) + "7", "-" + less, "1/" + less}},
	} {
		for _, text := range c.inside {
			if !interval.Contains(c.a, rat(text)) {
				t.Errorf("%s contains %s", short(c.a), short(of(text, text)))
			}
		}
		for _, text := range c.outside {
			if interval.Contains(c.a, rat(text)) {
				t.Errorf("%s does not contain %s", short(c.a), short(of(text, text)))
			}
		}
	}
}

// P5.1 (E1), P1: what is no interval contains nothing, and what is no number is contained in nothing.
func TestContainsMalformed(t *testing.T) {
	for _, wrong := range malformed() {
		for _, r := range []api.Rat{wrong.Low, wrong.High, rat("0"), rat("1"), rat("-1"), rat("3/2"), {}} {
			if interval.Contains(wrong, r) {
				t.Errorf("%s contains %s", short(wrong), short(api.Interval{Low: r, High: r}))
			}
		}
	}
	for _, wrong := range malformedNumbers() {
		for _, a := range []api.Interval{of("0", "0"), of("1", "1"), of("-5", "5"), of("1/2", "1/2"), of("-"+digits("9", 1000), digits("9", 1000))} {
			if interval.Contains(a, wrong) {
				t.Errorf("%s contains %s", short(a), short(api.Interval{Low: wrong, High: wrong}))
			}
		}
	}
}

// P5.1 (E2): both sums, of integers, fractions, and single numbers.
func TestAdd(t *testing.T) {
	check(t, "Add", interval.Add, []call{
		{of("1/2", "1"), of("-1", "2"), of("-1/2", "3"), api.OK}, {of("-2", "3"), of("-1", "4"), of("-3", "7"), api.OK}, {of("1", "2"), of("10", "20"), of("11", "22"), api.OK}, {of("-2", "-1"), of("-20", "-10"), of("-22", "-11"), api.OK}, {of("-2", "-1"), of("10", "20"), of("8", "19"), api.OK},
		{of("0", "0"), of("-7", "9"), of("-7", "9"), api.OK}, {of("0", "0"), of("0", "0"), of("0", "0"), api.OK}, {of("1", "1"), of("2", "2"), of("3", "3"), api.OK}, {of("1/2", "1/2"), of("-1/2", "-1/2"), of("0", "0"), api.OK}, {of("-1", "1"), of("-1", "1"), of("-2", "2"), api.OK},
		{of("1/3", "1/2"), of("1/6", "1/6"), of("1/2", "2/3"), api.OK}, {of("-1/3", "1/4"), of("-1/4", "1/3"), of("-7/12", "7/12"), api.OK}, {of("-5/6", "5"), of("5/6", "7/2"), of("0", "17/2"), api.OK}, {of("-3", "-3"), of("-1/2", "4"), of("-7/2", "1"), api.OK},
	})
}

// P5.1 (E3): all combinations of signs, and of single numbers with others.
func TestMul(t *testing.T) {
	negative, zero, positive, around := of("-3", "-1/2"), of("0", "0"), of("2/3", "4"), of("-1/4", "5")
	check(t, "Mul", interval.Mul, []call{
		{of("-2", "3"), of("-1", "4"), of("-8", "12"), api.OK}, {of("1/2", "1"), of("-1", "2"), of("-1", "2"), api.OK},
		{negative, negative, of("1/4", "9"), api.OK}, {negative, zero, zero, api.OK}, {negative, positive, of("-12", "-1/3"), api.OK}, {negative, around, of("-15", "3/4"), api.OK},
		{zero, zero, zero, api.OK}, {zero, positive, zero, api.OK}, {zero, around, zero, api.OK}, {positive, positive, of("4/9", "16"), api.OK}, {positive, around, of("-1", "20"), api.OK}, {around, around, of("-5/4", "25"), api.OK},
		{of("-2", "0"), negative, of("0", "6"), api.OK}, {of("-2", "0"), positive, of("-8", "0"), api.OK}, {of("-2", "0"), around, of("-10", "1/2"), api.OK}, {of("-2", "0"), of("-3", "0"), of("0", "6"), api.OK}, {of("-2", "0"), of("0", "3"), of("-6", "0"), api.OK}, {of("-2", "0"), zero, zero, api.OK},
		{of("0", "2"), negative, of("-6", "0"), api.OK}, {of("0", "2"), positive, of("0", "8"), api.OK}, {of("0", "2"), around, of("-1/2", "10"), api.OK}, {of("0", "2"), of("0", "3"), of("0", "6"), api.OK}, {of("0", "2"), zero, zero, api.OK},
		{of("3", "3"), of("1/3", "1/3"), of("1", "1"), api.OK}, {of("-3", "-3"), of("1/3", "1/3"), of("-1", "-1"), api.OK}, {of("-2", "-2"), of("-2", "-2"), of("4", "4"), api.OK}, {of("1", "1"), around, around, api.OK}, {of("-1", "-1"), around, of("-5", "1/4"), api.OK}, {of("-2", "-2"), of("-3", "-1"), of("2", "6"), api.OK}, {of("1/2", "1/2"), of("-3", "4"), of("-3/2", "2"), api.OK},
		{of("-1", "1"), of("-1", "1"), of("-1", "1"), api.OK}, {of("-2", "1"), of("-3", "1"), of("-3", "6"), api.OK}, {of("-1", "3"), of("-2", "2"), of("-6", "6"), api.OK},
	})
}

// P5.1 (E3), P5.3: each of the four products is, for some intervals, less than the other three, and for some greater. The comments name the least one, and the greatest one.
func TestRoles(t *testing.T) {
	for _, c := range []call{
		{a: of("1", "2"), b: of("3", "5"), want: of("3", "10")},     // Low Low, High High
		{a: of("-2", "1"), b: of("3", "5"), want: of("-10", "5")},   // Low High, High High
		{a: of("3", "5"), b: of("-2", "1"), want: of("-10", "5")},   // High Low, High High
		{a: of("-2", "-1"), b: of("-5", "-3"), want: of("3", "10")}, // High High, Low Low
		{a: of("1", "2"), b: of("-5", "-3"), want: of("-10", "-3")}, // High Low, Low High
		{a: of("-5", "-3"), b: of("1", "2"), want: of("-10", "-3")}, // Low High, High Low
		{a: of("-2", "1"), b: of("-5", "3"), want: of("-6", "10")},  // Low High, Low Low
		{a: of("-5", "3"), b: of("-2", "1"), want: of("-6", "10")},  // High Low, Low Low
	} {
		expect(t, "Mul", interval.Mul, c.a, c.b, c.want, api.OK)
	}
}

// P5.1 (E4): hulls of one interval, of equal ones, of apart, nested and touching ones.
func TestHull(t *testing.T) {
	nines := digits("9", 1000)
	for _, c := range []struct {
		l    []api.Interval
		want api.Interval
	}{
		{[]api.Interval{of("1", "2"), of("5", "6"), of("0", "1/2")}, of("0", "6")}, {[]api.Interval{of("1", "2")}, of("1", "2")}, {[]api.Interval{of("0", "0")}, of("0", "0")}, {[]api.Interval{of("-3", "-3")}, of("-3", "-3")},
		{[]api.Interval{of("1", "2"), of("1", "2"), of("1", "2")}, of("1", "2")}, {[]api.Interval{of("-1", "-1/2"), of("-3", "-2/3")}, of("-3", "-1/2")}, {[]api.Interval{of("0", "9"), of("2", "3")}, of("0", "9")}, {[]api.Interval{of("2", "3"), of("0", "9")}, of("0", "9")}, {[]api.Interval{of("0", "1"), of("1", "2")}, of("0", "2")},
		{[]api.Interval{of("1", "1"), of("-1", "-1"), of("0", "0")}, of("-1", "1")}, {[]api.Interval{of("1/3", "1/2"), of("1/4", "1/3"), of("2/5", "3/5")}, of("1/4", "3/5")}, {[]api.Interval{of("2", "9"), of("2", "10")}, of("2", "10")}, {[]api.Interval{of("-10", "3"), of("-9", "3")}, of("-10", "3")}, {[]api.Interval{of("0", "1"), of("0", "2"), of("1", "2")}, of("0", "2")},
		{[]api.Interval{of("-"+nines, "-1"), of("1/"+nines, nines)}, of("-"+nines, nines)}, {[]api.Interval{of("1/"+nines, "1"), of("0", "1/2")}, of("0", "1")},
	} {
		for range 2 {
			if got, err := interval.Hull(c.l); got != c.want || err != api.OK {
				t.Errorf("Hull of %s: %s, error %d; want %s", short(c.l...), short(got), err, short(c.want))
			}
			slices.Reverse(c.l)
		}
	}
}

// P5.1 (E4): 1000 intervals and not one more; which of them has the ends does not matter.
func TestLengthsOfHulls(t *testing.T) {
	hull := func(l []api.Interval, want api.Interval, wantErr api.Errno) {
		t.Helper()
		if got, err := interval.Hull(l); got != want || err != wantErr {
			t.Errorf("Hull of %d intervals: %s, error %d; want %s, error %d", len(l), short(got), err, short(want), wantErr)
		}
	}
	hull(nil, none, api.ErrNone)
	hull([]api.Interval{}, none, api.ErrNone)
	hull(make([]api.Interval, 0, 2000), none, api.ErrNone)
	for _, length := range []int{2, 999, 1000} {
		for _, place := range []int{0, length / 2, length - 1} {
			l := slices.Repeat([]api.Interval{of("-1/2", "1/2")}, length)
			hull(l, of("-1/2", "1/2"), api.OK)
			l[place] = of("1/3", "2")
			hull(l, of("-1/2", "2"), api.OK)
			l[length-1-place].Low = rat("-7")
			hull(l, of("-7", "2"), api.OK)
		}
	}
	for _, length := range []int{1001, 1002, 5000} {
		hull(slices.Repeat([]api.Interval{of("0", "1")}, length), none, api.ErrLimit)
		hull(make([]api.Interval, length), none, api.ErrLimit)
		hull(append(slices.Repeat([]api.Interval{of("0", "1")}, length-1), of("1", "0")), none, api.ErrLimit)
	}
}

// P5.1 (E5): common parts of intervals that overlap, touch, contain each other, and are apart.
func TestMeet(t *testing.T) {
	nines, less := digits("9", 1000), digits("9", 999)+"8"
	for _, c := range []struct {
		a, b, want api.Interval
		ok         bool
	}{
		{of("0", "2"), of("2", "3"), of("2", "2"), true}, {of("0", "1"), of("2", "3"), none, false}, {of("0", "5"), of("1", "2"), of("1", "2"), true}, {of("0", "3"), of("-1", "1/2"), of("0", "1/2"), true}, {of("0", "3"), of("0", "3"), of("0", "3"), true},
		{of("0", "3"), of("0", "2"), of("0", "2"), true}, {of("0", "3"), of("1", "3"), of("1", "3"), true}, {of("1", "1"), of("1", "1"), of("1", "1"), true}, {of("1", "1"), of("0", "2"), of("1", "1"), true}, {of("1", "1"), of("1", "2"), of("1", "1"), true}, {of("1", "1"), of("0", "1"), of("1", "1"), true}, {of("1", "1"), of("2", "2"), none, false}, {of("1", "1"), of("2", "3"), none, false},
		{of("-3", "-1"), of("-2", "0"), of("-2", "-1"), true}, {of("-3", "-2"), of("-1", "0"), none, false}, {of("-1", "0"), of("0", "1"), of("0", "0"), true}, {of("-1", "-1"), of("1", "1"), none, false}, {of("-2", "2"), of("-1/3", "1/3"), of("-1/3", "1/3"), true},
		{of("0", "1/3"), of("1/3", "1/2"), of("1/3", "1/3"), true}, {of("0", "1/3"), of("1/2", "1"), none, false}, {of("0", "2/3"), of("3/4", "1"), none, false}, {of("0", "3/4"), of("2/3", "1"), of("2/3", "3/4"), true}, {of("0", "9"), of("10", "11"), none, false}, {of("0", "10"), of("9", "11"), of("9", "10"), true},
		{of("0", less), of(nines, nines), none, false}, {of("0", nines), of(less, nines), of(less, nines), true}, {of("0", "1/"+nines), of("1/"+less, "1"), none, false}, {of("0", "1/"+less), of("1/"+nines, "1"), of("1/"+nines, "1/"+less), true},
	} {
		for _, pair := range [][2]api.Interval{{c.a, c.b}, {c.b, c.a}} {
			if got, ok := interval.Meet(pair[0], pair[1]); got != c.want || ok != c.ok {
				t.Errorf("Meet of %s: %s, %t; want %s, %t", short(pair[:]...), short(got), ok, short(c.want), c.ok)
			}
		}
	}
}

// P5.1 (E2): one sum alone reaches the limit, or both do; sums of 1000 digits do not.
func TestLimitsOfSums(t *testing.T) {
	nines, less, tiny := digits("9", 1000), digits("9", 999)+"8", "1/"+power(500)
	check(t, "Add", interval.Add, []call{
		{of("0", less), of("0", "1"), of("0", nines), api.OK}, {of("-"+less, "0"), of("-1", "0"), of("-"+nines, "0"), api.OK}, {of("-"+less, less), of("-1", "1"), of("-"+nines, nines), api.OK}, {of("-"+nines, nines), of("0", "0"), of("-"+nines, nines), api.OK},
		{of("0", nines), of("0", "1"), none, api.ErrLimit}, {of("-"+nines, "0"), of("-1", "0"), none, api.ErrLimit}, {of("-"+nines, nines), of("-1", "1"), none, api.ErrLimit}, {of(nines, nines), of("1", "1"), none, api.ErrLimit},
		{of("-"+nines, nines), of("1", "1"), none, api.ErrLimit}, {of("-"+nines, nines), of("-1", "-1"), none, api.ErrLimit},
		{of(tiny, "1"), of("1/"+power(499), "1"), of("11/"+power(500), "2"), api.OK}, {of(tiny, "1"), of(tiny, "1"), none, api.ErrLimit}, {of("-1", tiny), of("-1", tiny), none, api.ErrLimit}, {of("-"+tiny, "1"), of(tiny, "1"), none, api.ErrLimit}, {of(tiny, tiny), of("-"+tiny, "-"+tiny), none, api.ErrLimit},
	})
}

// P5.1 (E3): each of the four products alone reaches the limit, also one that would be no end; products of 1000 digits do not.
func TestLimitsOfProducts(t *testing.T) {
	big, tiny := power(500), "1/"+power(500)
	check(t, "Mul", interval.Mul, []call{
		{of("-"+big, "1"), of("-"+big, "1"), none, api.ErrLimit}, {of("-"+big, "1"), of("-1", big), none, api.ErrLimit}, {of("-1", big), of("-1", big), none, api.ErrLimit}, {of("-"+big, big), of("-"+big, big), none, api.ErrLimit}, {of(big, big), of(big, big), none, api.ErrLimit}, {of(big, big), of("-"+big, "-"+big), none, api.ErrLimit},
		{of("-"+big, "1"), of("-"+power(499), "1"), of("-"+big, power(999)), api.OK}, {of("-"+big, "1"), of("-1", power(499)), of("-"+power(999), big), api.OK}, {of("-1", big), of("-1", power(499)), of("-"+big, power(999)), api.OK}, {of(big, big), of("0", "0"), of("0", "0"), api.OK},
		{of(tiny, "1"), of(tiny, "1"), none, api.ErrLimit}, {of("-1", tiny), of("-1", tiny), none, api.ErrLimit}, {of(tiny, "1"), of("-1", tiny), none, api.ErrLimit}, {of(tiny, "1"), of("1/"+power(499), "1"), of("1/"+power(999), "1"), api.OK},
		{of(tiny, "2"), of("-3", tiny), none, api.ErrLimit}, {of("-2", tiny), of("-3", tiny), none, api.ErrLimit}, {of("-"+tiny, "2"), of("-3", tiny), none, api.ErrLimit}, {of("-"+tiny, "2"), of("-"+tiny, "3"), none, api.ErrLimit},
	})
}

// P5.1, P1: what is no interval is told in each argument, before a limit, and the result is the zero value.
func TestMalformed(t *testing.T) {
	nines := digits("9", 1000)
	others := append(malformed(), of("0", "0"), of("1", "1"), of("-1", "2/3"), of("-"+nines, nines), of("1/"+nines, "1"))
	for _, wrong := range malformed() {
		for _, other := range others {
			for name, do := range map[string]operation{"Add": interval.Add, "Mul": interval.Mul} {
				expect(t, name, do, wrong, other, none, api.ErrArg)
				expect(t, name, do, other, wrong, none, api.ErrArg)
			}
			for _, pair := range [][2]api.Interval{{wrong, other}, {other, wrong}} {
				if got, ok := interval.Meet(pair[0], pair[1]); got != none || ok {
					t.Errorf("Meet of %s: %s, %t", short(pair[:]...), short(got), ok)
				}
				if got, err := interval.Hull(pair[:]); got != none || err != api.ErrArg {
					t.Errorf("Hull of %s: %s, error %d", short(pair[:]...), short(got), err)
				}
			}
		}
	}
}

// P5.1 (E4), P1: what is no interval is told at each place of a list.
func TestMalformedPlaces(t *testing.T) {
	for _, length := range []int{1, 2, 5, 1000} {
		l := slices.Repeat([]api.Interval{of("-1", "1/2")}, length)
		for _, wrong := range []api.Interval{{}, of("1", "-1"), of("2/4", "1"), of("0", "-0"), {Low: rat("0")}, {High: rat("0")}} {
			for place := 0; place < length; place += 1 + length/40 {
				right := l[place]
				l[place] = wrong
				if got, err := interval.Hull(l); got != none || err != api.ErrArg {
					t.Errorf("Hull of %d intervals, with %s at %d: %s, error %d", length, short(wrong), place, short(got), err)
				}
				l[place] = right
			}
			l[length-1] = wrong
			if got, err := interval.Hull(l); got != none || err != api.ErrArg {
				t.Errorf("Hull of %d intervals, with %s at the end: %s, error %d", length, short(wrong), short(got), err)
			}
			l[length-1] = of("-1", "1/2")
		}
	}
}
