package lexer_test

import (
	"math/rand"
	"regexp"
	"slices"
	"strconv"
	"strings"
	"testing"

	"observatory/api"
	"observatory/lexer"
)

// What the chapter calls gaps and tokens, as patterns: of alternatives, the first one that fits is taken.
var (
	gapPattern   = regexp.MustCompile(`\A(?:[ \t\n]|#[^\n]*)*`)
	tokenPattern = regexp.MustCompile(`\A(?:([A-Za-z][A-Za-z0-9_]*)|([0-9]+)([A-Za-z_]?)|(")([^"\n]*)("?)|([!<>=]=|[;,.:()\[\]{}=<>+*/-]))`)
)

// reference reads tokens with the patterns.
func reference(text string) ([]api.Token, api.Errno, int) {
	if len(text) > 20000 {
		return nil, api.ErrLimit, -1
	}
	var list []api.Token
	at := len(gapPattern.FindString(text))
	for at < len(text) {
		length, token, err := referenceToken(text[at:])
		if err == api.OK && len(list) == 5000 {
			err = api.ErrLimit
		}
		if err != api.OK {
			return nil, err, at
		}
		token.At = at
		list = append(list, token)
		at += length
		at += len(gapPattern.FindString(text[at:]))
	}
	return list, api.OK, 0
}

// referenceToken returns the token at the beginning of a text, and how many bytes it takes.
func referenceToken(text string) (int, api.Token, api.Errno) {
	parts := tokenPattern.FindStringSubmatch(text)
	if parts == nil {
		return 0, api.Token{}, api.ErrChar
	}
	if word := parts[1]; len(word) > 24 {
		return 0, api.Token{}, api.ErrLimit
	} else if word != "" {
		return len(word), name(word, 0), api.OK
	}
	if word := parts[2]; len(word) > 13 || parts[3] != "" {
		return 0, api.Token{}, api.ErrNumber
	} else if word != "" {
		n, _ := strconv.Atoi(word)
		return len(word), number(word, n, 0), api.OK
	}
	if parts[4] == "" {
		return len(parts[7]), symbol(parts[7], 0), api.OK
	}
	if parts[6] == "" {
		return 0, api.Token{}, api.ErrEnd
	}
	if len(parts[5]) > 400 {
		return 0, api.Token{}, api.ErrLimit
	}
	return len(parts[5]) + 2, quoted(parts[5], 0), api.OK
}

// agree compares what Lex returns with the reference.
func agree(t *testing.T, text string) {
	t.Helper()
	want, wantErr, wantAt := reference(text)
	got, err, at := lexer.Lex(text)
	if !slices.Equal(got, want) || err != wantErr || at != wantAt {
		t.Errorf("Lex of %q: %s, error %d, %d; want %s, error %d, %d", short(text), show(got), err, at, show(want), wantErr, wantAt)
	}
}

// eachText calls a function with all texts of up to so many of the bytes.
func eachText(bytes string, most int, with func(string)) {
	var longer func(text string)
	longer = func(text string) {
		with(text)
		if len(text) == most {
			return
		}
		for i := range len(bytes) {
			longer(text + bytes[i:i+1])
		}
	}
	longer("")
}

// P8.1, P1: all texts of up to two bytes, and all short ones of a byte or two of each class.
func TestAllShortTexts(t *testing.T) {
	eachText(allBytes(""), 2, func(text string) { agree(t, text) })
	eachText("a_7\"#\n =!<;\xff", 4, func(text string) { agree(t, text) })
	eachText("a_7\"#\n=!", 5, func(text string) { agree(t, text) })
}

// pieces are words that are tokens, gaps and neither, also at the limits.
func pieces() []string {
	list := bytesOf(allBytes(""))
	list = append(list, "!=", "<=", ">=", "==", "===", "a", "row", "x_1", "7", "007", "9999999999999", `""`, `"a b"`, "\"#\"", "#\n", "#x\n", "# \"\n", "  ", "\n\n", "7x", "\"\n")
	for _, n := range []int{12, 13, 14} {
		list = append(list, strings.Repeat("9", n), strings.Repeat("0", n))
	}
	for _, n := range []int{23, 24, 25} {
		list = append(list, strings.Repeat("b", n), "c"+strings.Repeat("_", n-1), "d"+strings.Repeat("7", n-1))
	}
	for _, n := range []int{399, 400, 401} {
		list = append(list, `"`+strings.Repeat("e", n)+`"`, `"`+strings.Repeat("\xff", n))
	}
	return list
}

// P8.1, P1: any pieces, one directly after the other.
func TestAllPairs(t *testing.T) {
	list := pieces()
	for _, a := range list {
		for _, b := range list {
			agree(t, a+b)
		}
	}
}

// P8.1, P1, P3: any texts of pieces, most of which have no error at once.
func TestAnyTexts(t *testing.T) {
	random := rand.New(rand.NewSource(1))
	list := pieces()
	for range 20000 {
		var text strings.Builder
		for range random.Intn(12) {
			if random.Intn(4) == 0 {
				text.WriteString(list[random.Intn(len(list))])
			} else {
				text.WriteString(anyWord(random))
			}
		}
		agree(t, text.String())
		agree(t, text.String())
	}
}

// P8.1, P1: texts with about as many bytes and tokens as there may be.
func TestAnyLongTexts(t *testing.T) {
	random := rand.New(rand.NewSource(2))
	for range 60 {
		var text strings.Builder
		for count := 4990 + random.Intn(20); count > 0; count-- {
			text.WriteString(anyPart(random))
		}
		agree(t, text.String())
		agree(t, text.String()+anyGap(random)+pick(random, wrongWords()...))
	}
	for range 60 {
		text := anyTokens(random, 3000)
		text += strings.Repeat(" ", max(0, 19990-len(text)))
		agree(t, text+anyTokens(random, 4))
	}
}

func wrongWords() []string {
	return []string{"!", "_", "\r", "\xff", "7x", `"`, strings.Repeat("a", 25), strings.Repeat("1", 14), `"` + strings.Repeat("a", 401) + `"`}
}

// FuzzLex is for go test -fuzz; as a test, it takes the texts that are added here.
func FuzzLex(f *testing.F) {
	for _, text := range []string{"", "row a1 at 7>=x# y", `to "" "a b";`, "a !b", "7x", "\xff"} {
		f.Add(text)
	}
	f.Fuzz(func(t *testing.T, text string) { agree(t, text) })
}
