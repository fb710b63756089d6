package lexer_test

import (
	"math/rand"
	"regexp"
	"slices"
	"strconv"
	"strings"
	"testing"

	"observatory/api"
	"observatory/lexer"
)

func pick(random *rand.Rand, list ...string) string { return list[random.Intn(len(list))] }

// anyOf returns a text of so many of the bytes.
func anyOf(random *rand.Rand, bytes string, n int) string {
	text := make([]byte, n)
	for i := range text {
		text[i] = bytes[random.Intn(len(bytes))]
	}
	return string(text)
}

func anyName(random *rand.Rand) string {
	return anyOf(random, letters, 1) + anyOf(random, letters+digits+"_", pickLength(random, 23))
}

func anyNumber(random *rand.Rand) string {
	return anyOf(random, digits, 1+pickLength(random, 12))
}

func anyString(random *rand.Rand) string {
	return `"` + anyOf(random, allBytes("\"\n"), pickLength(random, 400)) + `"`
}

// pickLength returns a length of at most so much, often a small one, or the greatest.
func pickLength(random *rand.Rand, most int) int {
	switch random.Intn(8) {
	case 0:
		return most
	case 1:
		return random.Intn(most + 1)
	default:
		return random.Intn(min(most, 4) + 1)
	}
}

func anySymbol(random *rand.Rand) string {
	return pick(random, append(bytesOf(marks), "!=", "<=", ">=", "==")...)
}

// anyToken returns a text that is one token.
func anyToken(random *rand.Rand) string {
	switch random.Intn(5) {
	case 0:
		return anyName(random)
	case 1:
		return anyNumber(random)
	case 2:
		return anyString(random)
	default:
		return anySymbol(random)
	}
}

// anyGap returns a gap, or none; a comment in it ends with a line feed.
func anyGap(random *rand.Rand) string {
	var gap strings.Builder
	for range pickLength(random, 3) {
		gap.WriteString(pick(random, " ", "\t", "\n", "#\n", "# !\"7x\n", "#"+anyOf(random, allBytes("\n"), 5)+"\n"))
	}
	return gap.String()
}

// anyWord returns a token with a gap around it, or none.
func anyWord(random *rand.Rand) string {
	return anyGap(random) + anyToken(random) + anyGap(random)
}

// anyPart returns a short token that makes none with another one after it.
func anyPart(random *rand.Rand) string {
	return pick(random, ";", "a ", "7 ", "+", `""`, "!= ", "(", "b\n", "= ", "c\t", "\"d\"", "#\n;")
}

// anyTokens returns a text of so many tokens without an error, within the limits.
func anyTokens(random *rand.Rand, n int) string {
	var text strings.Builder
	for range n {
		if text.Len() > 19000 {
			break
		}
		text.WriteString(anyGap(random) + anyToken(random) + pick(random, " ", "\n", "\t", "#\n", "#x\n"))
	}
	return text.String() + anyGap(random)
}

// tokensOf returns the tokens of a text that has no error.
func tokensOf(t *testing.T, text string) []api.Token {
	t.Helper()
	list, err, at := lexer.Lex(text)
	if err != api.OK || at != 0 {
		t.Fatalf("Lex of %q: error %d, %d", short(text), err, at)
	}
	return list
}

// written returns the bytes of a token in its text.
func written(token api.Token) string {
	if token.Kind == api.TokString {
		return `"` + token.Text + `"`
	}
	return token.Text
}

// end returns the offset after a token.
func end(token api.Token) int { return token.At + len(written(token)) }

// shifted returns tokens at offsets that are greater by so much.
func shifted(list []api.Token, by int) []api.Token {
	var moved []api.Token
	for _, token := range list {
		token.At += by
		moved = append(moved, token)
	}
	return moved
}

// unplaced returns tokens without their offsets.
func unplaced(list []api.Token) []api.Token {
	var bare []api.Token
	for _, token := range list {
		token.At = 0
		bare = append(bare, token)
	}
	return bare
}

// samples are texts without an error: the short ones among all, and others.
func samples(random *rand.Rand) []string {
	list := []string{"", " ", "#", "#x", "\n#x\n#y", "row a1 at 7>=x# y", `to "" "a b";`, strings.Repeat(";", 5000), strings.Repeat("a\n", 5000), strings.Repeat(`"";`, 2500), strings.Repeat("   ;", 5000), `"` + strings.Repeat("#", 400) + `"#"`}
	eachText("a7\"#\n=!<", 4, func(text string) {
		if _, err, _ := lexer.Lex(text); err == api.OK {
			list = append(list, text)
		}
	})
	for range 1500 {
		list = append(list, anyTokens(random, random.Intn(20)))
	}
	return append(list, anyTokens(random, 5000))
}

var (
	between = regexp.MustCompile(`\A(?:[ \t\n]|#[^\n]*\n)*\z`)
	behind  = regexp.MustCompile(`\A(?:[ \t\n]|#[^\n]*\n)*(?:#[^\n]*)?\z`)
)

// P8.2: tokens stand at their offsets, one after the other; all that is left is gaps.
func TestPlaces(t *testing.T) {
	for _, text := range samples(rand.New(rand.NewSource(3))) {
		at := 0
		for _, token := range tokensOf(t, text) {
			if token.At < at || !between.MatchString(text[at:token.At]) || !strings.HasPrefix(text[token.At:], written(token)) || written(token) == "" {
				t.Errorf("%q: after %d, the token %#v", short(text), at, token)
				break
			}
			at = end(token)
		}
		if !behind.MatchString(text[at:]) {
			t.Errorf("%q: after %d are not only gaps", short(text), at)
		}
	}
}

// P8.3: tokens that are written with one blank after each, where this is short enough.
func TestAgain(t *testing.T) {
	for _, text := range samples(rand.New(rand.NewSource(4))) {
		list := tokensOf(t, text)
		var again strings.Builder
		for _, token := range list {
			again.WriteString(written(token) + " ")
		}
		if again.Len() > 20000 {
			expectError(t, again.String(), api.ErrLimit, -1)
		} else if got := tokensOf(t, again.String()); !slices.Equal(unplaced(got), unplaced(list)) {
			t.Errorf("%q: written again, %s became %s", short(text), show(list), show(got))
		}
	}
}

// joined checks the tokens of two texts with a line feed between them, within the limits and beyond them.
func joined(t *testing.T, a, b string) {
	t.Helper()
	text := a + "\n" + b
	want := append(slices.Clip(tokensOf(t, a)), shifted(tokensOf(t, b), len(a)+1)...)
	if len(text) > 20000 {
		expectError(t, text, api.ErrLimit, -1)
	} else if len(want) > 5000 {
		expectError(t, text, api.ErrLimit, want[5000].At)
	} else {
		expectTokens(t, text, want...)
	}
}

// P8.4: any two texts, and some that have as many bytes or tokens together as there may be, and one more.
func TestParts(t *testing.T) {
	random := rand.New(rand.NewSource(5))
	list := samples(random)
	for _, a := range list {
		joined(t, a, list[random.Intn(len(list))])
		joined(t, list[random.Intn(len(list))], a)
	}
	for _, n := range []int{0, 1, 2499, 2500, 2501, 4999, 5000} {
		for _, m := range []int{4998, 4999, 5000, 5001, 5002} {
			if m-n >= 0 && m-n <= 5000 {
				joined(t, strings.Repeat(";", n), strings.Repeat(";", m-n))
				joined(t, strings.Repeat(`""`, n)+"#", strings.Repeat(";", m-n)+" ")
			}
		}
		for _, m := range []int{19998, 19999, 20000} {
			joined(t, strings.Repeat(" ", n), strings.Repeat(" ", m-n))
			joined(t, strings.Repeat("#", n), "a"+strings.Repeat(" ", m-n-1))
		}
	}
}

// begins checks that the text before an error has none, and that the one from there on has it at 0.
func begins(t *testing.T, text string) {
	t.Helper()
	_, err, at := lexer.Lex(text)
	if err == api.OK {
		return
	}
	tokensOf(t, text[:at])
	expectError(t, text[at:], err, 0)
}

// P8.5: all short texts with an error, and any texts with one at any place.
func TestBeginnings(t *testing.T) {
	random := rand.New(rand.NewSource(6))
	eachText("a_7\"#\n=!<\xff", 4, func(text string) { begins(t, text) })
	list := pieces()
	for range 5000 {
		wrong := anyTokens(random, random.Intn(10)) + pick(random, list...) + pick(random, list...)
		begins(t, wrong+anyTokens(random, 3))
		begins(t, wrong+"\n"+pick(random, wrongWords()...))
	}
	for _, word := range wrongWords() {
		begins(t, strings.Repeat(";", 4999)+word)
		begins(t, strings.Repeat(";", 5000)+word)
	}
	for _, word := range []string{"a", ";", "7", `""`} {
		expectError(t, strings.Repeat(";", 5000)+word, api.ErrLimit, 5000)
		tokensOf(t, strings.Repeat(";", 5000))
		tokensOf(t, word)
	}
}

// P8.6: further gaps at the beginning, at the end and after each token.
func TestGaps(t *testing.T) {
	random := rand.New(rand.NewSource(7))
	for _, text := range samples(random) {
		list := tokensOf(t, text)
		var wider strings.Builder
		wider.WriteString(anyGap(random))
		from := 0
		var want []api.Token
		for _, token := range list {
			wider.WriteString(text[from:token.At])
			from = end(token)
			want = append(want, shifted([]api.Token{token}, wider.Len()-token.At)...)
			wider.WriteString(written(token) + anyGap(random))
		}
		wider.WriteString(text[from:] + pick(random, "", "\n"+anyGap(random), "\n#", "#x", "# \"!"))
		if wider.Len() <= 20000 {
			expectTokens(t, wider.String(), want...)
		} else {
			expectError(t, wider.String(), api.ErrLimit, -1)
		}
	}
}

// P8.6: each gap after each token of a text.
func TestGapAfterEachToken(t *testing.T) {
	text := `row a1:at 7>=x!=y==="a b""";<z+0007`
	list := tokensOf(t, text)
	for i := range len(list) + 1 {
		at := 0
		if i > 0 {
			at = end(list[i-1])
		}
		for _, gap := range []string{" ", "\t", "\n", "#\n", "#x\n", "\n\n", "# \"\n", strings.Repeat(" ", 20000-len(text))} {
			expectTokens(t, text[:at]+gap+text[at:], append(slices.Clip(list[:i]), shifted(list[i:], len(gap))...)...)
		}
	}
}

// single reports whether a text is one token, and nothing else.
func single(text string) bool {
	list, err, _ := lexer.Lex(text)
	return err == api.OK && len(list) == 1 && written(list[0]) == text
}

// P8.7: no token and one directly after it are one together; no token could be longer.
func TestLongest(t *testing.T) {
	whole := regexp.MustCompile(`\A(?:[A-Za-z][A-Za-z0-9_]{0,23}|[0-9]{1,13}|"[^"\n]{0,400}"|[!<>=]=|[;,.:()\[\]{}=<>+*/-])\z`)
	random := rand.New(rand.NewSource(8))
	var list []string
	eachText("a_7\"#=!<;", 5, func(text string) { list = append(list, text) })
	for range 20000 {
		list = append(list, anyToken(random)+anyToken(random)+anyToken(random))
	}
	for _, text := range list {
		tokens, err, _ := lexer.Lex(text)
		if err != api.OK {
			continue
		}
		for i, token := range tokens {
			if i > 0 && end(tokens[i-1]) == token.At && whole.MatchString(text[tokens[i-1].At:end(token)]) {
				t.Errorf("%q: %#v and %#v are one", text, tokens[i-1], token)
			}
			for until := end(token) + 1; until <= min(len(text), end(token)+30); until++ {
				if longer := text[token.At:until]; whole.MatchString(longer) || single(longer) {
					t.Errorf("%q: %#v could be %q", text, token, longer)
				}
			}
		}
	}
}

// P8.8: any names, numbers and strings are one token each; so are the numbers around the powers of ten.
func TestWords(t *testing.T) {
	random := rand.New(rand.NewSource(9))
	for range 5000 {
		word := anyName(random)
		expectTokens(t, word, name(word, 0))
		text := anyString(random)
		expectTokens(t, text, quoted(text[1:len(text)-1], 0))
		n := random.Intn(10000000000000)
		expectTokens(t, strconv.Itoa(n), number(strconv.Itoa(n), n, 0))
	}
	for power := 1; power <= 1000000000000; power *= 10 {
		for _, n := range []int{power - 1, power, power + 1, 5 * power, 9 * power, 10*power - 1} {
			expectTokens(t, strconv.Itoa(n), number(strconv.Itoa(n), n, 0))
		}
	}
}

// P3: a caller may change the tokens that it has; later calls return what they returned before.
func TestIndependence(t *testing.T) {
	text := `row a1 at 7>=x "b" # y`
	first := tokensOf(t, text)
	want := slices.Clone(first)
	for range 3 {
		second := tokensOf(t, text)
		for i := range second {
			second[i] = api.Token{}
		}
		expectError(t, "b 8 "+text+"\n!", api.ErrChar, len(text)+5)
	}
	if !slices.Equal(first, want) {
		t.Errorf("later calls change %s to %s", show(want), show(first))
	}
	expectTokens(t, text, want...)
}
