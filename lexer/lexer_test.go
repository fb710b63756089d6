package lexer_test

import (
	"fmt"
	"slices"
	"strings"
	"testing"

	"observatory/api"
	"observatory/lexer"
)

const (
	letters = "ABCDEFGHIJKLMNOPQRSTUVWXYZabcdefghijklmnopqrstuvwxyz"
	digits  = "0123456789"
	marks   = ";,.:()[]{}=<>+-*/"
	gaps    = " \t\n"
)

func name(text string, at int) api.Token { return api.Token{Kind: api.TokName, Text: text, At: at} }

func number(text string, n, at int) api.Token {
	return api.Token{Kind: api.TokNumber, Text: text, N: n, At: at}
}

func quoted(text string, at int) api.Token {
	return api.Token{Kind: api.TokString, Text: text, At: at}
}

func symbol(text string, at int) api.Token {
	return api.Token{Kind: api.TokSymbol, Text: text, At: at}
}

// short shows a text, or the beginning of a long one.
func short(text string) string {
	if len(text) > 60 {
		return text[:60] + " .."
	}
	return text
}

// show shows the number of tokens, and the first ones.
func show(list []api.Token) string {
	return fmt.Sprintf("%d tokens %#v", len(list), list[:min(len(list), 9)])
}

func expectTokens(t *testing.T, text string, want ...api.Token) {
	t.Helper()
	got, err, at := lexer.Lex(text)
	if !slices.Equal(got, want) || err != api.OK || at != 0 {
		t.Errorf("Lex of %q: %s, error %d, %d; want %s", short(text), show(got), err, at, show(want))
	}
}

// expectError checks an error with its offset; there are no tokens beside it.
func expectError(t *testing.T, text string, wantErr api.Errno, wantAt int) {
	t.Helper()
	got, err, at := lexer.Lex(text)
	if len(got) != 0 || err != wantErr || at != wantAt {
		t.Errorf("Lex of %q: %d tokens, error %d, %d; want error %d, %d", short(text), len(got), err, at, wantErr, wantAt)
	}
}

// bytesOf returns each byte of a text.
func bytesOf(text string) []string {
	var list []string
	for i := range len(text) {
		list = append(list, text[i:i+1])
	}
	return list
}

// allBytes returns a text with each byte but those of another text.
func allBytes(but string) string {
	var list []byte
	for b := range 256 {
		if strings.IndexByte(but, byte(b)) < 0 {
			list = append(list, byte(b))
		}
	}
	return string(list)
}

// strangers returns the bytes that begin no token and are in no gap, `!` among them.
func strangers() []string { return bytesOf(allBytes(letters + digits + marks + gaps + `"#`)) }

// P8.1 (H1): the examples of the chapter.
func TestExamples(t *testing.T) {
	expectTokens(t, "row a1 at 7>=x# y", name("row", 0), name("a1", 4), name("at", 7), number("7", 7, 10), symbol(">=", 11), name("x", 13))
	expectTokens(t, `to "" "a b";`, name("to", 0), quoted("", 3), quoted("a b", 6), symbol(";", 11))
	expectError(t, "a !b", api.ErrChar, 2)
	expectError(t, "7x", api.ErrNumber, 0)
	expectError(t, "12345678901234", api.ErrNumber, 0)
	expectError(t, `a "b`, api.ErrEnd, 2)
	expectError(t, "\n"+strings.Repeat("a", 25), api.ErrLimit, 1)
}

// P8.1: the empty text, and texts of gaps alone; comments that end with a line feed and with the text.
func TestGapsAlone(t *testing.T) {
	for _, text := range []string{
		"", " ", "\t", "\n", "  ", "\n\n", " \t\n \t\n", "#", "##", "# ", "#\n", "# \n", "#\n#", "#\n\n#\n", "\n#x", " #x\n\t#y\n ", "#x #y", "#x\t\n",
		"#\"", "#!", "#7x", "#a\n", "#\r\n", "#\x00\n", "#" + allBytes("\n"), "#" + allBytes("\n") + "\n", "# " + strings.Repeat("a", 25), "#" + strings.Repeat("1", 14) + "\n",
		strings.Repeat(" ", 20000), strings.Repeat("\n", 20000), strings.Repeat("\t", 20000), strings.Repeat("#", 20000), strings.Repeat("#\n", 10000), "#" + strings.Repeat("!", 19999), "#" + strings.Repeat("\"", 19998) + "\n",
	} {
		expectTokens(t, text)
	}
}

// P8.1: gaps around tokens; comments directly after a token, with anything in them, at the beginning and the end.
func TestGapsAround(t *testing.T) {
	for _, gap := range []string{" ", "\t", "\n", "  ", " \t\n", "#\n", "#x\n", " #\n", "#\n#\n", "#\"\n", "#'\\\n", "# a \"b\" 7x !\n\t", "#" + allBytes("\n") + "\n"} {
		n := len(gap)
		expectTokens(t, gap+"a", name("a", n))
		expectTokens(t, "a"+gap, name("a", 0))
		expectTokens(t, "a"+gap+"b", name("a", 0), name("b", 1+n))
		expectTokens(t, "7"+gap+"8", number("7", 7, 0), number("8", 8, 1+n))
		expectTokens(t, "7"+gap+"x", number("7", 7, 0), name("x", 1+n))
		expectTokens(t, "="+gap+"=", symbol("=", 0), symbol("=", 1+n))
		expectTokens(t, `"a"`+gap+`"b"`, quoted("a", 0), quoted("b", 3+n))
		expectTokens(t, gap+";"+gap+";"+gap, symbol(";", n), symbol(";", 1+2*n))
		expectError(t, "a"+gap+"!", api.ErrChar, 1+n)
		expectError(t, "!"+gap+"=", api.ErrChar, 0)
	}
	expectTokens(t, "a#", name("a", 0))
	expectTokens(t, "a#b", name("a", 0))
	expectTokens(t, "a #b", name("a", 0))
	expectTokens(t, "7#x", number("7", 7, 0))
	expectTokens(t, `"a"#"`, quoted("a", 0))
	expectTokens(t, ";#;", symbol(";", 0))
	expectTokens(t, "a#b\n#c\nd#e", name("a", 0), name("d", 7))
	expectError(t, "a#b\n!", api.ErrChar, 4)
	expectError(t, "a#\r!\n\r", api.ErrChar, 5)
}

// P8.1, P8.8: names of 1, 24 and 25 bytes, with each letter, digits and `_`.
func TestNames(t *testing.T) {
	for _, text := range append(bytesOf(letters), letters[:24], letters[24:48], letters[28:], "a1", "a_", "A0123456789", "z_________", "Z9_a", "a__1__B", "row", "e1", strings.Repeat("a", 23), strings.Repeat("Z", 24), "a"+strings.Repeat("_", 23), "b"+strings.Repeat("9", 23), "abcdefghij0123456789_ABC") {
		expectTokens(t, text, name(text, 0))
		expectTokens(t, "\n "+text+"\t", name(text, 2))
		expectTokens(t, text+`"`+text+`"`, name(text, 0), quoted(text, len(text)))
		for _, mark := range bytesOf(marks) {
			expectTokens(t, text+mark+text, name(text, 0), symbol(mark, len(text)), name(text, len(text)+1))
		}
		expectTokens(t, text+"!="+text, name(text, 0), symbol("!=", len(text)), name(text, len(text)+2))
		expectError(t, text+"!", api.ErrChar, len(text))
		expectError(t, text+" _", api.ErrChar, len(text)+1)
	}
	for _, c := range letters + digits + "_" {
		expectTokens(t, "x"+string(c), name("x"+string(c), 0))
		expectTokens(t, letters[:23]+string(c), name(letters[:23]+string(c), 0))
		expectError(t, letters[:24]+string(c), api.ErrLimit, 0)
		expectError(t, "; "+letters[:24]+string(c)+";", api.ErrLimit, 2)
	}
	expectError(t, "_", api.ErrChar, 0)
	expectError(t, "_a", api.ErrChar, 0)
	expectError(t, ";_a", api.ErrChar, 1)
	expectError(t, strings.Repeat("a", 26), api.ErrLimit, 0)
	expectError(t, strings.Repeat("a", 48), api.ErrLimit, 0)
	expectError(t, strings.Repeat("a", 20000), api.ErrLimit, 0)
	expectError(t, "a"+strings.Repeat("_", 24), api.ErrLimit, 0)
	expectError(t, "a"+strings.Repeat("0", 24), api.ErrLimit, 0)
	expectTokens(t, letters[:24]+" "+letters[24:48], name(letters[:24], 0), name(letters[24:48], 25))
}

// P8.1, P8.8: numbers of 1, 13 and 14 digits, with zeros in front; what may follow them directly, and what may not.
func TestNumbers(t *testing.T) {
	for _, c := range []struct {
		text string
		n    int
	}{
		{"0", 0}, {"1", 1}, {"2", 2}, {"3", 3}, {"4", 4}, {"5", 5}, {"6", 6}, {"7", 7}, {"8", 8}, {"9", 9}, {"10", 10}, {"01", 1}, {"00", 0}, {"007", 7}, {"0090", 90}, {"1234567890", 1234567890},
		{"2147483647", 2147483647}, {"2147483648", 2147483648}, {"4294967296", 4294967296}, {"999999999999", 999999999999}, {"1000000000000", 1000000000000}, {"1000000000001", 1000000000001}, {"9999999999999", 9999999999999}, {"9007199254741", 9007199254741}, {"0000000000000", 0}, {"0000000000001", 1}, {"0999999999999", 999999999999}, {"9876543210123", 9876543210123},
	} {
		n := len(c.text)
		expectTokens(t, c.text, number(c.text, c.n, 0))
		expectTokens(t, "\t"+c.text+" a", number(c.text, c.n, 1), name("a", n+2))
		expectTokens(t, c.text+`"a"`, number(c.text, c.n, 0), quoted("a", n))
		expectTokens(t, c.text+"#a", number(c.text, c.n, 0))
		for _, mark := range bytesOf(marks) {
			expectTokens(t, c.text+mark+c.text, number(c.text, c.n, 0), symbol(mark, n), number(c.text, c.n, n+1))
			expectTokens(t, mark+c.text+mark+"a", symbol(mark, 0), number(c.text, c.n, 1), symbol(mark, n+1), name("a", n+2))
		}
		for _, follower := range bytesOf(letters + "_") {
			expectError(t, c.text+follower, api.ErrNumber, 0)
			expectError(t, "a "+c.text+follower+" b", api.ErrNumber, 2)
		}
		expectError(t, c.text+"!", api.ErrChar, n)
		expectError(t, c.text+"\xc3", api.ErrChar, n)
		expectError(t, c.text+`"`, api.ErrEnd, n)
	}
	for _, text := range []string{"12345678901234", "00000000000000", "00000000000001", "10000000000000", "99999999999999", "12345678901234x", "123456789012345", "18446744073709551617", "1234567890123_", "1234567890123a", strings.Repeat("1", 26), strings.Repeat("9", 19998), "0x10", "1e5", "7_", "7a_"} {
		expectError(t, text, api.ErrNumber, 0)
		expectError(t, "a;"+text, api.ErrNumber, 2)
	}
	expectTokens(t, "-1+x", symbol("-", 0), number("1", 1, 1), symbol("+", 2), name("x", 3))
	expectTokens(t, "1.5", number("1", 1, 0), symbol(".", 1), number("5", 5, 2))
	expectTokens(t, "1234567890123 4", number("1234567890123", 1234567890123, 0), number("4", 4, 14))
}

// P8.1, P8.8: the empty string, strings of 400 and 401 bytes, with `#` and with all bytes but quotes and line feeds.
func TestStrings(t *testing.T) {
	inside := allBytes("\"\n")
	for _, text := range append(bytesOf(inside), "", " ", "a b", "#", "#a", "a#", "!", "7x", "_", "\\", "a\\", "\r", "\t", "\x00", "\xff\xfe", "\xc3\xa4", strings.Repeat("a", 25), strings.Repeat("1", 14), inside, strings.Repeat("a", 399), strings.Repeat("a", 400), strings.Repeat("#", 400), strings.Repeat("\xe2\x82\xac", 133)+"x", (inside + inside)[:400]) {
		n := len(text) + 2
		s := `"` + text + `"`
		expectTokens(t, s, quoted(text, 0))
		expectTokens(t, s+s, quoted(text, 0), quoted(text, n))
		expectTokens(t, " "+s+"a"+s+"7;"+s+"#\"", quoted(text, 1), name("a", n+1), quoted(text, n+2), number("7", 7, 2*n+2), symbol(";", 2*n+3), quoted(text, 2*n+4))
		expectError(t, s+"!", api.ErrChar, n)
		expectError(t, s+`"`, api.ErrEnd, n)
		expectError(t, "a"+s[:n-1], api.ErrEnd, 1)
		expectError(t, s[:n-1]+"\n\"", api.ErrEnd, 0)
		expectError(t, `"`+"\n"+text+`"`, api.ErrEnd, 0)
	}
	for _, n := range []int{401, 402, 800, 19998} {
		expectError(t, `"`+strings.Repeat("a", n)+`"`, api.ErrLimit, 0)
		expectError(t, `"`+strings.Repeat("a", n), api.ErrEnd, 0)
		expectError(t, `"`+strings.Repeat("a", n)+"\n", api.ErrEnd, 0)
	}
	expectError(t, " \""+strings.Repeat("\xff", 401)+"\"", api.ErrLimit, 1)
	expectError(t, `"`+strings.Repeat("a", 401)+"\n\"", api.ErrEnd, 0)
	expectError(t, `""`+`"`+strings.Repeat("#", 401)+`"`, api.ErrLimit, 2)
	expectError(t, `"`, api.ErrEnd, 0)
	expectError(t, `"""`, api.ErrEnd, 2)
	expectError(t, "\"\n\"", api.ErrEnd, 0)
	expectError(t, `a"#`, api.ErrEnd, 1)
	expectTokens(t, `"#""!"7`, quoted("#", 0), quoted("!", 3), number("7", 7, 6))
}

// P8.1: each of the symbols, and those of two bytes beside those of one.
func TestSymbols(t *testing.T) {
	for _, mark := range bytesOf(marks) {
		expectTokens(t, mark, symbol(mark, 0))
		expectTokens(t, " "+mark+" ", symbol(mark, 1))
		expectTokens(t, "a"+mark+"7", name("a", 0), symbol(mark, 1), number("7", 7, 2))
		expectTokens(t, mark+";", symbol(mark, 0), symbol(";", 1))
		expectTokens(t, mark+"<", symbol(mark, 0), symbol("<", 1))
		expectTokens(t, mark+"!=", symbol(mark, 0), symbol("!=", 1))
		if strings.Contains("<>=", mark) {
			expectTokens(t, mark+"=", symbol(mark+"=", 0))
			expectTokens(t, mark+"==", symbol(mark+"=", 0), symbol("=", 2))
			expectTokens(t, mark+"===", symbol(mark+"=", 0), symbol("==", 2))
			expectTokens(t, mark+" =", symbol(mark, 0), symbol("=", 2))
		} else {
			expectTokens(t, mark+"=", symbol(mark, 0), symbol("=", 1))
			expectTokens(t, mark+"==", symbol(mark, 0), symbol("==", 1))
			expectTokens(t, mark+mark, symbol(mark, 0), symbol(mark, 1))
		}
		expectError(t, mark+"!", api.ErrChar, 1)
	}
	expectTokens(t, "!=", symbol("!=", 0))
	expectTokens(t, "!==", symbol("!=", 0), symbol("=", 2))
	expectTokens(t, "!===", symbol("!=", 0), symbol("==", 2))
	expectTokens(t, "!=!=", symbol("!=", 0), symbol("!=", 2))
	expectTokens(t, "===!=", symbol("==", 0), symbol("=", 2), symbol("!=", 3))
	expectTokens(t, "=<", symbol("=", 0), symbol("<", 1))
	expectTokens(t, "=>", symbol("=", 0), symbol(">", 1))
	expectTokens(t, "<>", symbol("<", 0), symbol(">", 1))
	expectTokens(t, "><", symbol(">", 0), symbol("<", 1))
	expectTokens(t, "<<", symbol("<", 0), symbol("<", 1))
	expectTokens(t, ">>=", symbol(">", 0), symbol(">=", 1))
	expectTokens(t, "<<=>", symbol("<", 0), symbol("<=", 1), symbol(">", 3))
	expectTokens(t, "+-*/", symbol("+", 0), symbol("-", 1), symbol("*", 2), symbol("/", 3))
	expectTokens(t, "([{}])", symbol("(", 0), symbol("[", 1), symbol("{", 2), symbol("}", 3), symbol("]", 4), symbol(")", 5))
	expectTokens(t, "a.b:c,d;", name("a", 0), symbol(".", 1), name("b", 2), symbol(":", 3), name("c", 4), symbol(",", 5), name("d", 6), symbol(";", 7))
}

// P8.1, P1: bytes that begin no token, among them `!` alone, `_`, carriage returns, zero bytes and bytes beyond 127.
func TestStrangers(t *testing.T) {
	if n := len(strangers()); n != 256-52-10-17-3-2 {
		t.Fatalf("%d strangers", n)
	}
	for _, s := range strangers() {
		expectError(t, s, api.ErrChar, 0)
		expectError(t, " "+s, api.ErrChar, 1)
		expectError(t, s+"a", api.ErrChar, 0)
		expectError(t, s+" =", api.ErrChar, 0)
		expectError(t, s+s, api.ErrChar, 0)
		expectError(t, "a;"+s+"a", api.ErrChar, 2)
		expectError(t, "a#\n"+s, api.ErrChar, 3)
		expectError(t, `""`+s, api.ErrChar, 2)
		expectTokens(t, `"`+s+`"#`+s, quoted(s, 0))
		if s != "!" {
			expectError(t, s+"=", api.ErrChar, 0)
		}
		if s != "_" {
			expectError(t, "a"+s, api.ErrChar, 1)
			expectError(t, "7"+s, api.ErrChar, 1)
			expectError(t, strings.Repeat("a", 24)+s, api.ErrChar, 24)
			expectError(t, strings.Repeat("1", 13)+s, api.ErrChar, 13)
		}
	}
	expectError(t, "a\r\nb", api.ErrChar, 1)
	expectError(t, "!!=", api.ErrChar, 0)
	expectError(t, "!<=", api.ErrChar, 0)
	expectError(t, "a!", api.ErrChar, 1)
	expectError(t, "\u00e4", api.ErrChar, 0)
	expectError(t, "a\u00e4", api.ErrChar, 1)
}

// P8.1, P1: of several errors, the first one from left to right.
func TestSeveralErrors(t *testing.T) {
	name25, name24, number14, string401 := strings.Repeat("a", 25), strings.Repeat("a", 24), strings.Repeat("1", 14), `"`+strings.Repeat("a", 401)+`"`
	wrong := []struct {
		text string
		err  api.Errno
	}{{"!", api.ErrChar}, {"_", api.ErrChar}, {"\r", api.ErrChar}, {name25, api.ErrLimit}, {number14, api.ErrNumber}, {"7x", api.ErrNumber}, {"7_", api.ErrNumber}, {string401, api.ErrLimit}, {`"`, api.ErrEnd}}
	for _, first := range wrong {
		for _, second := range wrong {
			expectError(t, first.text+"\n"+second.text, first.err, 0)
			expectError(t, name24+" \n"+first.text+"\n"+second.text, first.err, 26)
			expectTokens(t, "#"+first.text+second.text+"\na", name("a", len(first.text)+len(second.text)+2))
		}
	}
	expectError(t, "7!", api.ErrChar, 1)
	expectError(t, `7"`, api.ErrEnd, 1)
	expectError(t, `!"`, api.ErrChar, 0)
	expectError(t, `"!`, api.ErrEnd, 0)
	expectError(t, `"7x" 7x`, api.ErrNumber, 5)
	expectError(t, name25+"\"\n", api.ErrLimit, 0)
	expectError(t, name24+"\xff"+name25, api.ErrChar, 24)
	expectError(t, number14+name25, api.ErrNumber, 0)
	expectError(t, string401+"\"", api.ErrLimit, 0)
}

// symbols returns so many symbols, each after as many blanks, with their text.
func symbols(n, blanks int) (string, []api.Token) {
	var list []api.Token
	for i := range n {
		list = append(list, symbol(";", i*(blanks+1)+blanks))
	}
	return strings.Repeat(strings.Repeat(" ", blanks)+";", n), list
}

// P8.1, P1: texts of 20000 and 20001 bytes; too long a text is told before all other errors.
func TestLongTexts(t *testing.T) {
	text, list := symbols(5000, 3)
	expectTokens(t, text, list...)
	expectError(t, text+" ", api.ErrLimit, -1)
	expectError(t, text+"!", api.ErrLimit, -1)
	for _, c := range []string{" ", "\n", "#", "!", "a", "7", `"`, ";", "_", "\x00", "\xff"} {
		expectError(t, strings.Repeat(c, 20001), api.ErrLimit, -1)
		expectError(t, c+strings.Repeat(" ", 20000), api.ErrLimit, -1)
		expectError(t, strings.Repeat(" ", 20000)+c, api.ErrLimit, -1)
		expectError(t, strings.Repeat(c, 100000), api.ErrLimit, -1)
	}
	expectError(t, "!"+strings.Repeat(" ", 19999), api.ErrChar, 0)
	expectError(t, strings.Repeat(" ", 19999)+"!", api.ErrChar, 19999)
	expectError(t, strings.Repeat(" ", 19999)+`"`, api.ErrEnd, 19999)
	expectError(t, strings.Repeat(" ", 19975)+strings.Repeat("a", 25), api.ErrLimit, 19975)
	expectError(t, strings.Repeat(" ", 19986)+strings.Repeat("1", 14), api.ErrNumber, 19986)
	expectTokens(t, strings.Repeat(" ", 19976)+strings.Repeat("a", 24), name(strings.Repeat("a", 24), 19976))
	expectTokens(t, strings.Repeat("\n", 19999)+"7", number("7", 7, 19999))
	expectTokens(t, strings.Repeat("\t", 19998)+`""`, quoted("", 19998))
	expectTokens(t, strings.Repeat(" ", 19998)+"!=", symbol("!=", 19998))
	expectTokens(t, "a"+strings.Repeat(" ", 19999), name("a", 0))
	expectTokens(t, "a#"+strings.Repeat("!", 19998), name("a", 0))
}

// P8.1, P1: 5000 and 5001 tokens; an error after 5000 tokens is the one of what follows, if it is no token.
func TestManyTokens(t *testing.T) {
	full, list := symbols(5000, 0)
	expectTokens(t, full, list...)
	expectTokens(t, full+" \n# 7x ! \"\n\t#;", list...)
	spaced, spacedList := symbols(4999, 1)
	expectTokens(t, spaced+"a", append(spacedList, name("a", 9998))...)
	for _, token := range []string{"a", "7", `""`, "!=", ";", "a;b;c", strings.Repeat("a", 24), strings.Repeat("1", 13), `"` + strings.Repeat("a", 400) + `"`} {
		expectError(t, full+token, api.ErrLimit, 5000)
		expectError(t, full+" \n"+token+" !", api.ErrLimit, 5002)
		expectError(t, full+"#7x\n"+token, api.ErrLimit, 5004)
	}
	for _, c := range []struct {
		text string
		err  api.Errno
	}{
		{"!", api.ErrChar}, {"_", api.ErrChar}, {"\r", api.ErrChar}, {"\xff", api.ErrChar}, {"7x", api.ErrNumber}, {strings.Repeat("1", 14), api.ErrNumber}, {`"`, api.ErrEnd}, {"\"\n\"", api.ErrEnd}, {strings.Repeat("a", 25), api.ErrLimit}, {`"` + strings.Repeat("a", 401) + `"`, api.ErrLimit}, {`"` + strings.Repeat("a", 401), api.ErrEnd},
	} {
		expectError(t, full+c.text, c.err, 5000)
		expectError(t, full+" "+c.text, c.err, 5001)
		expectError(t, full[:4999]+c.text, c.err, 4999)
		expectError(t, full+";"+c.text, api.ErrLimit, 5000)
		expectError(t, full+" a "+c.text, api.ErrLimit, 5001)
	}
	for _, text := range []string{"a ", "7 ", `""`, "!=", "<", "("} {
		got, err, at := lexer.Lex(strings.Repeat(text, 5000))
		if len(got) != 5000 || err != api.OK || at != 0 || got[4999].At != 4999*len(text) {
			t.Errorf("Lex of 5000 times %q: %d tokens, error %d, %d", text, len(got), err, at)
		}
		expectError(t, strings.Repeat(text, 5001), api.ErrLimit, 5000*len(text))
	}
}
