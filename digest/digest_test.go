package digest_test

import (
	"slices"
	"strings"
	"testing"

	"observatory/digest"
)

// hasForm is written without the package: sixteen digits, 0 to 9 and a to f.
func hasForm(s string) bool {
	for _, c := range []byte(s) {
		if (c < '0' || c > '9') && (c < 'a' || c > 'f') {
			return false
		}
	}
	return len(s) == 16
}

// allBytes returns the text of the 256 different bytes, most of which are no valid UTF-8.
func allBytes() string {
	var b []byte
	for i := range 256 {
		b = append(b, byte(i))
	}
	return string(b)
}

// distinct keeps digests with what they are of, and reports two of one value.
func distinct(t *testing.T) func(of, d string) {
	seen := map[string]string{}
	return func(of, d string) {
		t.Helper()
		if other, found := seen[d]; found && other != of {
			t.Fatalf("%q and %q have the digest %s", other, of, d)
		}
		seen[d] = of
	}
}

// The digests in the tables of these tests were computed by a second program
// that was written in another language, from the chapter's words.

// P1.1, A1
func TestSumOfKnownTexts(t *testing.T) {
	for _, test := range []struct{ name, text, want string }{
		{"empty", "", "aa0d8031ccbd19e5"},
		{"one byte 0, leading zero", "\x00", "0628a2ad251ff507"},
		{"two bytes 0", "\x00\x00", "9ed6f93537876487"},
		{"one letter", "a", "4e93512871d6fae1"},
		{"ends in a byte 0", "a\x00", "14efa73aa1773a64"},
		{"begins with a byte 0", "\x00a", "77b62f2a6464fda5"},
		{"seven bytes", "abcdefg", "73c5534c4876fe5a"},
		{"eight bytes, the last one 0", "abcdefg\x00", "6b31519453631eb7"},
		{"eight bytes", "abcdefgh", "65fdc713fc2ba2b7"},
		{"nine bytes, the last one 0", "abcdefgh\x00", "2f3304fdbb539257"},
		{"nine bytes", "abcdefghi", "86015c76f1f5fa5c"},
		{"sixteen bytes", "abcdefghabcdefgh", "64ec6e63743315ae"},
		{"eight bytes 0", strings.Repeat("\x00", 8), "30c7975a6d47a556"},
		{"sixteen bytes 0", strings.Repeat("\x00", 16), "723677b9c0cb6780"},
		{"seven bytes 255", strings.Repeat("\xff", 7), "cee58cb871febad3"},
		{"eight bytes 255", strings.Repeat("\xff", 8), "c5005b3f13bb6bfe"},
		{"bytes, not characters, are counted", "ü€", "ef4d7ea264bd3964"},
		{"eleven bytes, leading zero", "observatory", "0eff2ef886305d73"},
		{"a thousand bytes", strings.Repeat("x", 1000), "b3efeb3850dd2614"},
		{"all bytes", allBytes(), "1c76b1afef6f8d40"},
	} {
		if got := digest.Sum(test.text); got != test.want {
			t.Errorf("%s: Sum(%q) = %s, want %s", test.name, test.text, got, test.want)
		}
	}
}

// P1.1 and P1.6, A1
func TestListOfKnownLists(t *testing.T) {
	for _, test := range []struct {
		name   string
		l      []string
		joined string
		want   string
	}{
		{"nil", nil, "", "aa0d8031ccbd19e5"},
		{"empty", []string{}, "", "aa0d8031ccbd19e5"},
		{"an empty element", []string{""}, "0:", "7a98d55386ef4141"},
		{"two empty elements", []string{"", ""}, "0:0:", "a81022a6620ed8dc"},
		{"the chapter's example", []string{"a", "bc"}, "1:a2:bc", "29cd2c2dc605397e"},
		{"one element of three bytes", []string{"abc"}, "3:abc", "705e726a57cdb52d"},
		{"an element that looks joined", []string{"a2:bc"}, "5:a2:bc", "a454bab40feb4be5"},
		{"without colons it would join as the next one", []string{"9xxxxxxxxx0"}, "11:9xxxxxxxxx0", "952f5c8db63069a9"},
		{"without colons it would join as the one before", []string{"1", "xxxxxxxxx", ""}, "1:19:xxxxxxxxx0:", "522b0c649457a9a9"},
		{"a number of two digits", []string{"0123456789"}, "10:0123456789", "fc0bed5133babcef"},
		{"a number of three digits", []string{strings.Repeat("x", 100), ""}, "100:" + strings.Repeat("x", 100) + "0:", "d74f093c008bc3e1"},
	} {
		got := digest.List(test.l)
		if got != test.want {
			t.Errorf("%s: List(%q) = %s, want %s", test.name, test.l, got, test.want)
		}
		if got != digest.Sum(test.joined) {
			t.Errorf("%s: List(%q) is not the digest of %q", test.name, test.l, test.joined)
		}
	}
	if digest.List([]string{"ü€"}) != digest.Sum("5:ü€") {
		t.Error("the bytes of an element are counted, not its characters")
	}
	if digest.List([]string{"a", "b"}) == digest.List([]string{"b", "a"}) {
		t.Error("the order of the elements has no effect")
	}
}

// P1.1, A2
func TestChainOfKnownTexts(t *testing.T) {
	const least, most = -1 << 63, 1<<63 - 1
	for _, test := range []struct {
		text string
		n    int
		want string
	}{
		{"x", least, "x"},
		{"x", -1, "x"},
		{"x", 0, "x"},
		{"x", 1, "0eed3494099f1e71"},
		{"x", 2, "913c656c665db442"},
		{"x", 3, "8d3fb600444f138c"},
		{"x", 999, "1b9140298a7ebaba"},
		{"x", 1000, "93e42a7765099640"},
		{"x", 1001, "93e42a7765099640"},
		{"x", most, "93e42a7765099640"},
		{"", -1, ""},
		{"", 0, ""},
		{"", 1, "aa0d8031ccbd19e5"},
		{"", 2, "377bd6e2b9829a05"},
		{"", 1000, "362915cf4c0f1bb3"},
		{"", 1001, "362915cf4c0f1bb3"},
		{"abcdefg\x00", 0, "abcdefg\x00"},
		{"abcdefg\x00", 1, "6b31519453631eb7"},
	} {
		if got := digest.Chain(test.text, test.n); got != test.want {
			t.Errorf("Chain(%q, %d) = %q, want %q", test.text, test.n, got, test.want)
		}
	}
	if digest.Chain("x", 2) != digest.Sum(digest.Sum("x")) {
		t.Error("the chapter's example")
	}
}

// P1.1, A3
func TestIsOfTexts(t *testing.T) {
	for _, test := range []struct {
		text string
		want bool
	}{
		{"0123456789abcdef", true},
		{"0000000000000000", true},
		{"ffffffffffffffff", true},
		{"", false},
		{"0", false},
		{"0123456789abcdeF", false},
		{"0123456789abcde", false},
		{"0123456789abcdef0", false},
		{"0123456789abcdef\x00", false},
		{"0123456789abcdef0123456789abcdef", false},
		{" 123456789abcdef", false},
		{"0x23456789abcdef", false},
		{"+123456789abcdef", false},
		{strings.Repeat("\xff", 16), false},
		{strings.Repeat("\x00", 16), false},
		{strings.Repeat("é", 8), false},
		{strings.Repeat("é", 16), false},
	} {
		if got := digest.Is(test.text); got != test.want {
			t.Errorf("Is(%q) = %v", test.text, got)
		}
	}
}

// P1.1, A3
func TestIsOfEveryByteAtEveryPlace(t *testing.T) {
	for at := range 16 {
		for c := range 256 {
			text := []byte("0123456789abcdef")
			text[at] = byte(c)
			if got := digest.Is(string(text)); got != hasForm(string(text)) {
				t.Errorf("Is(%q) = %v", text, got)
			}
		}
	}
}

// P1.2
func TestFormOfDigests(t *testing.T) {
	check := func(of, d string) {
		t.Helper()
		if !hasForm(d) || !digest.Is(d) {
			t.Errorf("%s is %q, no digest", of, d)
		}
	}
	zeros := 0
	text := ""
	for i := range 600 {
		d := digest.Sum(text)
		check("Sum of "+text, d)
		check("List of "+text, digest.List([]string{text, text[i/2:]}))
		check("Chain of "+text, digest.Chain(text, i%5+1))
		if strings.HasPrefix(d, "0") {
			zeros++
		}
		text += string([]byte{byte(i * 37)})
	}
	if zeros == 0 {
		t.Error("no digest with a leading zero was met")
	}
	for _, n := range []int{1, 999, 1000, 1001, 1 << 62} {
		check("Chain", digest.Chain("", n))
		check("Chain", digest.Chain(allBytes(), n))
	}
	check("List of nothing", digest.List(nil))
}

// P1.3
func TestShortTextsDiffer(t *testing.T) {
	add := distinct(t)
	sum := func(b ...byte) { add(string(b), digest.Sum(string(b))) }
	sum()
	for i := range 256 {
		sum(byte(i))
		for j := range 256 {
			sum(byte(i), byte(j))
		}
	}
	signs := []byte{0, 1, 'a', 0x80, 0xff}
	texts := []string{""}
	for range 7 { // all texts of up to seven of these bytes, among them those that only bytes 0 at their ends tell apart
		var longer []string
		for _, text := range texts {
			for _, c := range signs {
				longer = append(longer, text+string([]byte{c}))
			}
		}
		for _, text := range longer {
			add(text, digest.Sum(text))
		}
		texts = longer
	}
}

// P1.4
func TestTextsThatDifferInOneBlockDiffer(t *testing.T) {
	base := allBytes()[100:140]
	for size := 1; size <= len(base); size++ { // among them multiples of 8, and last blocks of each length
		for from := 0; from < size; from += 8 {
			add := distinct(t)
			until := min(from+8, size)
			for at := from; at < until; at++ {
				for c := range 256 {
					text := []byte(base[:size])
					text[at] = byte(c)
					add(string(text), digest.Sum(string(text)))
					text[from] ^= 0x80
					text[until-1] ^= 1
					add(string(text), digest.Sum(string(text)))
				}
			}
		}
	}
}

// P1.4
func TestBytesInOneBlockAreNotExchanged(t *testing.T) {
	text := "abcdefghijklmnopqrstuvwxyz"
	for from := 0; from < 24; from += 8 {
		add := distinct(t)
		add(text, digest.Sum(text))
		for i := from; i < from+8; i++ {
			for j := from; j < i; j++ {
				other := []byte(text)
				other[i], other[j] = other[j], other[i]
				add(string(other), digest.Sum(string(other)))
			}
		}
	}
}

// P1.5
func TestChainOfChain(t *testing.T) {
	for _, text := range []string{"", "x", "abcdefgh", "0123456789abcdef", allBytes()} {
		for _, n := range [][2]int{{0, 0}, {0, 1}, {1, 0}, {1, 1}, {2, 3}, {3, 2}, {7, 100}, {0, 1000}, {1000, 0}, {1, 999}, {999, 1}, {500, 500}} {
			if got, want := digest.Chain(digest.Chain(text, n[0]), n[1]), digest.Chain(text, n[0]+n[1]); got != want {
				t.Errorf("chains of %q with %v: %q, want %q", text, n, got, want)
			}
		}
	}
}

// P1.1, A2
func TestEachChainIsTheDigestOfTheOneBefore(t *testing.T) {
	want := "x"
	for n := range 1001 {
		if got := digest.Chain("x", n); got != want {
			t.Fatalf("Chain with %d: %s, want %s", n, got, want)
		}
		want = digest.Sum(want)
	}
	if digest.Chain("x", 1000) == want {
		t.Error("a chain of 1001 cannot be told from one of 1000")
	}
}

// shortLists calls yield with all lists, of the bytes that could confuse, whose joined texts have at most left bytes.
func shortLists(l []string, left int, yield func([]string)) {
	yield(l)
	texts := []string{""}
	for size := 0; size+2 <= left; size++ {
		var longer []string
		for _, text := range texts {
			shortLists(append(l[:len(l):len(l)], text), left-size-2, yield)
			for _, c := range []string{":", "0", "1", "2", "\x00"} {
				longer = append(longer, text+c)
			}
		}
		texts = longer
	}
}

// P1.6
func TestShortListsDiffer(t *testing.T) {
	add := distinct(t)
	count := 0
	shortLists(nil, 7, func(l []string) {
		of := ""
		for _, element := range l { // hexadecimal digits and a blank tell lists apart in another way than joining does
			for _, c := range []byte(element) {
				of += string([]byte{'a' + c>>4, 'a' + c&15})
			}
			of += " "
		}
		add(of, digest.List(l))
		count++
	})
	if count < 4000 {
		t.Errorf("only %d lists", count)
	}
}

// P1.6
func TestListsThatDifferInOneBlockDiffer(t *testing.T) {
	add := distinct(t)
	for _, test := range []struct {
		joined string
		l      []string
	}{ // the joined texts are one block each
		{"6:abcdef", []string{"abcdef"}},
		{"6:bc1:de", []string{"bc1:de"}},
		{"3:abc1:d", []string{"abc", "d"}},
		{"1:a3:bcd", []string{"a", "bcd"}},
		{"2:ab2:cd", []string{"ab", "cd"}},
		{"0:4:abcd", []string{"", "abcd"}},
		{"4:abcd0:", []string{"abcd", ""}},
		{"0:0:2:ab", []string{"", "", "ab"}},
		{"0:2:ab0:", []string{"", "ab", ""}},
		{"0:0:0:0:", []string{"", "", "", ""}},
	} {
		add(test.joined, digest.List(test.l))
		around := append([]string{"before"}, test.l...) // "6:before" is one block, too
		around = append(around, "after")
		add("6:before"+test.joined+"5:after", digest.List(around))
	}
	for c := range 256 {
		text := string([]byte{byte(c)})
		add("1:"+text+"4:last", digest.List([]string{text, "last"}))
	}
}

// P1 of the document: all calls end, and none panics, whatever they are given
func TestLongArguments(t *testing.T) {
	long := strings.Repeat("\xff\x00:", 1<<20)
	l := make([]string, 100000)
	l[7] = long
	for _, d := range []string{digest.Sum(long), digest.List(l), digest.Chain(long, 1)} {
		if !hasForm(d) {
			t.Error(d)
		}
	}
	if digest.Is(long) || digest.Chain(long, 0) != long {
		t.Error("a long text")
	}
	if digest.Sum(long) == digest.Sum(long[:len(long)-1]) {
		t.Error("the last byte has no effect")
	}
}

// P3 of the document
func TestEqualArgumentsYieldEqualResults(t *testing.T) {
	text := strings.Repeat("night ", 20)
	copied := strings.Clone(text)
	l := []string{text, "", "a"}
	spare := append(make([]string, 0, 50), copied, "", "a")
	sum, list, chain, is := digest.Sum(text), digest.List(l), digest.Chain(text, 30), digest.Is(text)
	for i := range 20 {
		digest.Sum(text[i:])
		digest.List(l[:i%3])
		digest.Chain(copied, i)
		if digest.Sum(copied) != sum || digest.List(spare) != list || digest.Chain(copied, 30) != chain || digest.Is(copied) != is {
			t.Fatal("results of equal arguments differ")
		}
	}
	if digest.List(nil) != digest.List([]string{}) {
		t.Error("a nil slice and an empty one differ")
	}
	if !slices.Equal(l, []string{copied, "", "a"}) {
		t.Error("an argument was modified")
	}
}
