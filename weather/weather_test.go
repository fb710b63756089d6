package weather_test

import (
	"math"
	"slices"
	"strings"
	"testing"

	"observatory/api"
	"observatory/weather"
)

func cloud(quarter, n, from, until int) api.Spell {
	return api.Spell{Kind: api.SpellCloud, Quarter: quarter, N: n, From: from, Until: until}
}

func seeing(n, from, until int) api.Spell {
	return api.Spell{Kind: api.SpellSeeing, N: n, From: from, Until: until}
}

func closed(from, until int) api.Spell {
	return api.Spell{Kind: api.SpellClosed, From: from, Until: until}
}

// conditions returns conditions with so much transparency in the quarters.
func conditions(a, b, c, d, seeing int, open bool) api.Conditions {
	return api.Conditions{Clear: [4]int{a, b, c, d}, Seeing: seeing, Open: open}
}

// usual are the conditions without spells.
func usual() api.Conditions { return conditions(1000, 1000, 1000, 1000, 10, true) }

// far are numbers far away from all that is valid, among them some that become valid when bits are cut off or signs are lost.
func far() []int {
	return []int{
		math.MinInt, math.MinInt + 1, math.MinInt + 2, -1<<63 + 1<<32, -1<<32 - 1, -1 << 32, -1<<32 + 1, -1<<31 - 1, -1 << 31, -1 << 16, -1 << 8, -38400, -38399, -1000, -100,
		1 << 16, 1<<16 + 1, 1<<31 - 1, 1 << 31, 1<<32 - 1, 1 << 32, 1<<32 + 1, 1 << 58, 9999999999999, math.MaxInt/96 + 1, math.MaxInt - 1, math.MaxInt,
	}
}

func noMoments() []int {
	return append(far(), -97, -96, -95, -3, -2, -1, 38400, 38401, 38495, 38496, 76799)
}

func noNights() []int {
	return append(far(), -401, -400, -399, -32, -30, -15, -2, -1, 400, 401, 415, 799, 800, 38399)
}

func noTiles() []int {
	return append(far(), -513, -512, -511, -33, -32, -31, -16, -2, -1, 512, 513, 527, 543, 544, 1023, 1024, 5760)
}

func expectSpells(t *testing.T, text string, want ...api.Spell) {
	t.Helper()
	if l, err, at := weather.Parse(text); !slices.Equal(l, want) || err != api.OK || at != 0 {
		t.Errorf("Parse of %.200q: %v, error %d, %d; want %v", text, l, err, at, want)
	}
}

func expectError(t *testing.T, text string, wantErr api.Errno, wantAt int) {
	t.Helper()
	if l, err, at := weather.Parse(text); len(l) > 0 || err != wantErr || at != wantAt {
		t.Errorf("Parse of %.200q: %v, error %d, %d; want error %d, %d", text, l, err, at, wantErr, wantAt)
	}
}

// P12.1 (L1): spells of each kind with their least and greatest numbers, several ones in order, and the example.
func TestParse(t *testing.T) {
	expectSpells(t, "cloud 2 300 from 5 until 9; closed from 9 until 9;", cloud(2, 300, 5, 9), closed(9, 9))
	expectSpells(t, "cloud 0 0 from 0 until 0;", cloud(0, 0, 0, 0))
	expectSpells(t, "cloud 3 1000 from 38399 until 38399;", cloud(3, 1000, 38399, 38399))
	expectSpells(t, "cloud 1 999 from 0 until 38399;", cloud(1, 999, 0, 38399))
	expectSpells(t, "seeing 1 from 0 until 38399;", seeing(1, 0, 38399))
	expectSpells(t, "seeing 100 from 7 until 7;", seeing(100, 7, 7))
	expectSpells(t, "seeing 42 from 38398 until 38399;", seeing(42, 38398, 38399))
	expectSpells(t, "closed from 0 until 38399;", closed(0, 38399))
	expectSpells(t, "closed from 95 until 96;closed from 95 until 96;", closed(95, 96), closed(95, 96))
	expectSpells(t, "seeing 7 from 3 until 4;closed from 1 until 9;cloud 3 2 from 1 until 0008;cloud 2 3 from 1 until 8;seeing 6 from 0 until 1;", seeing(7, 3, 4), closed(1, 9), cloud(3, 2, 1, 8), cloud(2, 3, 1, 8), seeing(6, 0, 1))
}

// P12.1 (L1): texts without spells.
func TestParseOfNothing(t *testing.T) {
	for _, text := range []string{"", " ", "\n", "\t", "#", "#x", "# closed from 0 until 0;", "\n\n#\n#\n ", strings.Repeat(" ", 20000), "#" + strings.Repeat("?", 19999)} {
		expectSpells(t, text)
	}
}

// P12.1 (L1), P12.3: comments and line feeds around all tokens, no gaps where there need be none, and leading zeros.
func TestParseWithGaps(t *testing.T) {
	for _, text := range []string{
		"cloud 2 300 from 5 until 9;closed from 9 until 9;",
		"cloud 2 300 from 5 until 9 ; closed from 9 until 9 ;",
		"\ncloud\n2\n300\nfrom\n5\nuntil\n9\n;\nclosed\nfrom\n9\nuntil\n9\n;\n",
		"\tcloud\t2\t300\tfrom\t5\tuntil\t9\t;\tclosed\tfrom\t9\tuntil\t9\t;\t",
		"#\ncloud#\n2#x\n300#;\nfrom#from\n5#6\nuntil#\n9#\n;#\nclosed#\"\nfrom#?\n9# !\nuntil#7x\n9#\n;#",
		"cloud 02 0000000000300 from 005 until 0000000000009; closed from 0000000000009 until 09;",
		strings.Repeat(" ", 10000) + "cloud 2 300 from 5 until 9; closed from 9 until 9;" + strings.Repeat("\n", 20000-10050),
		"cloud 2 300 from" + strings.Repeat("#\n", 9975) + "5 until 9; closed from 9 until 9;\n",
	} {
		expectSpells(t, text, cloud(2, 300, 5, 9), closed(9, 9))
	}
	expectSpells(t, "cloud 0000000000000 0000000000000 from 0000000000000 until 0000000000000;seeing 0000000000001 from 00 until 00;", cloud(0, 0, 0, 0), seeing(1, 0, 0))
}

// P12.1 (L1): ErrSyntax for tokens that are not those that are expected, in each place, and of all kinds.
func TestParseOfWrongTokens(t *testing.T) {
	for text, at := range map[string]int{
		"rain from 1 until 2;": 0, "Closed from 1 until 2;": 0, "clouds 1 1 from 1 until 2;": 0, "cloud1 1 from 1 until 2;": 0, "\"closed\" from 1 until 2;": 0, "7 from 1 until 2;": 0, "; closed from 1 until 2;": 0, "from 1 until 2;": 0, "until 2;": 0, "1": 0, "\"\"": 0, ";": 0, " # \n=": 4, "CLOUD 1 1 from 1 until 2;": 0, "closed_ from 1 until 2;": 0, "SEEING": 0, "o": 0,
		"cloud from 1 until 2;": 6, "cloud 1 from 1 until 2;": 8, "cloud x 1 from 1 until 2;": 6, "cloud \"1\" 1 from 1 until 2;": 6, "cloud 1 \"1\" from 1 until 2;": 8, "cloud - 1 1 from 1 until 2;": 6, "cloud -1 1 from 1 until 2;": 6, "cloud 1 -1 from 1 until 2;": 8, "cloud 1, 1 from 1 until 2;": 7, "cloud 1.1 from 1 until 2;": 7, "cloud 1 1 1 from 1 until 2;": 10, "cloud 1 1; from 1 until 2;": 9, "cloud;": 5, "cloud 1;": 7,
		"seeing from 1 until 2;": 7, "seeing 1 1 from 1 until 2;": 9, "seeing ten from 1 until 2;": 7, "seeing \"10\" from 1 until 2;": 7, "seeing seeing 1 from 1 until 2;": 7, "seeing +1 from 1 until 2;": 7, "seeing;": 6, "seeing 1;": 8,
		"closed 1": 7, "closed 1 from 1 until 2;": 7, "closed closed from 1 until 2;": 7, "closed;": 6, "closed From 1 until 2;": 7, "closed \"from\" 1 until 2;": 7, "closed until 1 from 2;": 7, "closed from from 1 until 2;": 12, "closed from until 2;": 12, "closed from x until 2;": 12, "closed from \"1\" until 2;": 12, "closed from -1 until 2;": 12, "closed from 1.1 until 2;": 13, "closed from 1 2;": 14, "closed from 1 to 2;": 14, "closed from 1 Until 2;": 14, "closed from 1 \"until\" 2;": 14, "closed from 1 from 2;": 14, "closed from 1;": 13, "closed from 1 until;": 19, "closed from 1 until until 2;": 20, "closed from 1 until \"2\";": 20, "closed from 1 until -2;": 20, "closed from 1 until 2 2;": 22, "closed from 1 until 2.2;": 21, "closed from 1 until 2 closed": 22, "closed from 1 until 2, closed": 21, "closed from 1 until 2:": 21, "closed from 1 until 2 \";\"": 22, "closed from 1 until 2 semicolon": 22, "closed from 1 until 2;;": 22, "closed from 1 until 2; 7": 23, "closed from 1 until 2; rain": 23, "closed from 1 until 2; # x\n\"closed\"": 27,
	} {
		expectError(t, text, api.ErrSyntax, at)
	}
}

// P12.1 (L1): ErrEnd, at the length of the text, for those that end within a spell, in each place, and with gaps behind.
func TestParseOfUnfinishedTexts(t *testing.T) {
	for _, text := range []string{
		"cloud", "cloud 1", "cloud 1 1", "cloud 1 1 from", "cloud 1 1 from 1", "cloud 1 1 from 1 until", "cloud 1 1 from 1 until 2",
		"seeing", "seeing 1", "seeing 1 from", "seeing 1 from 1", "seeing 1 from 1 until", "seeing 1 from 1 until 2",
		"closed", "closed from", "closed from 2", "closed from 2 until", "closed from 2 until 2",
		"seeing 0", "seeing 0 from 1 until 2", "cloud 4", "cloud 3 1001 from 1 until 2", "closed from 38400", "closed from 2 until 1", "closed from 1 until 38400",
	} {
		for _, before := range []string{"", "\n", "closed from 1 until 2;", "seeing 1 from 1 until 2;cloud 3 2 from 0 until 0;\n"} {
			for _, behind := range []string{"", " ", "\n\n", "#", " # ; ", "\t#\n"} {
				whole := before + text + behind
				expectError(t, whole, api.ErrEnd, len(whole))
			}
		}
	}
}

// P12.1 (L1): ErrRange, at the `;`, for numbers just outside on both sides where there are two, and very great ones.
func TestParseOfInvalidSpells(t *testing.T) {
	for _, text := range []string{
		"cloud 4 0 from 1 until 2", "cloud 5 0 from 1 until 2", "cloud 9999999999999 0 from 1 until 2", "cloud 4294967296 0 from 1 until 2", "cloud 3 1001 from 1 until 2", "cloud 0 1002 from 1 until 2", "cloud 0 65536 from 1 until 2", "cloud 0 4294967297 from 1 until 2", "cloud 1 9999999999999 from 1 until 2", "cloud 4 1001 from 38400 until 38400", "cloud 300 2 from 5 until 9",
		"seeing 0 from 1 until 2", "seeing 0000000000000 from 1 until 2", "seeing 101 from 1 until 2", "seeing 102 from 1 until 2", "seeing 1000 from 1 until 2", "seeing 257 from 1 until 2", "seeing 4294967297 from 1 until 2", "seeing 9999999999999 from 1 until 2",
		"closed from 2 until 1", "closed from 38399 until 38398", "closed from 38399 until 0", "closed from 1 until 0", "closed from 0 until 38400", "closed from 38400 until 38400", "closed from 38401 until 38402", "closed from 38400 until 1", "closed from 9999999999999 until 9999999999999", "closed from 0 until 9999999999999", "closed from 9999999999999 until 0", "closed from 4294967296 until 4294967297", "closed from 4294967296 until 38399", "closed from 65536 until 38399", "closed from 0 until 4294967296", "cloud 4294967297 0 from 1 until 2", "cloud 256 0 from 1 until 2", "closed from 0 until 65536",
		"cloud 0 0 from 2 until 1", "cloud 0 0 from 0 until 38400", "cloud 0 0 from 38400 until 38400", "seeing 1 from 2 until 1", "seeing 1 from 0 until 38400", "seeing 1 from 38400 until 38400",
	} {
		for _, before := range []string{"", " ", "closed from 1 until 2;", "#\nseeing 1 from 1 until 2;cloud 3 2 from 0 until 0;\n"} {
			for _, gap := range []string{"", " ", "# x\n"} {
				for _, behind := range []string{"", "\n", "seeing 0 from 1 until 2;", "closed", "x", ";", "7"} {
					expectError(t, before+text+gap+";"+behind, api.ErrRange, len(before+text+gap))
				}
			}
		}
	}
}

// P12.1 (L1): what layer 8 refuses comes first, with its offset, also behind other errors.
func TestParseOfWhatIsNoTokens(t *testing.T) {
	wrong := []struct {
		text string
		err  api.Errno
	}{{"?", api.ErrChar}, {"\x00", api.ErrChar}, {"_", api.ErrChar}, {"!", api.ErrChar}, {"\r", api.ErrChar}, {"é", api.ErrChar}, {"7x", api.ErrNumber}, {"5from", api.ErrNumber}, {"12345678901234", api.ErrNumber}, {"00000000000001", api.ErrNumber}, {"\"", api.ErrEnd}, {"\"a\n\"", api.ErrEnd}, {strings.Repeat("a", 25), api.ErrLimit}, {`"` + strings.Repeat("a", 401) + `"`, api.ErrLimit}}
	for _, x := range wrong {
		for _, before := range []string{"", " ", "closed ", "cloud ", "cloud 1 ", "closed from 1 until 2; ", "closed from 2 until 1; ", "seeing 0 from 1 until 2; ", "rain ", "; ", "closed from from ", strings.Repeat("closed from 0 until 0;", 201) + " "} {
			for _, behind := range []string{"", "\nclosed", " ; ? 7x", "\n\""} {
				expectError(t, before+x.text+behind, x.err, len(before))
			}
		}
	}
	expectError(t, strings.Repeat(" ", 20001), api.ErrLimit, -1)
	expectError(t, strings.Repeat(";", 20001), api.ErrLimit, -1)
	expectError(t, strings.Repeat(";", 5001), api.ErrLimit, 5000)
	expectError(t, strings.Repeat(";", 5000), api.ErrSyntax, 0)
	expectError(t, strings.Repeat("closed ", 2000)+"?", api.ErrChar, 14000)
	expectSpells(t, "closed from 1 until 2;"+strings.Repeat(" ", 19978), closed(1, 2))
	expectError(t, "closed from 1 until 2;"+strings.Repeat(" ", 19979), api.ErrLimit, -1)
	expectError(t, "closed from 2 until 1;"+strings.Repeat(" ", 19979), api.ErrLimit, -1)
}

// P12.1 (L1): several errors in a text, of which the leftmost one counts.
func TestParseOfSeveralErrors(t *testing.T) {
	for _, x := range []struct {
		text string
		err  api.Errno
		at   int
	}{
		{"seeing 0 from 1 until 2; rain", api.ErrRange, 23}, {"rain; seeing 0 from 1 until 2;", api.ErrSyntax, 0}, {"seeing 0 from 1 until 2, closed from 2 until 1;", api.ErrSyntax, 23}, {"seeing 0 from 1 to 2;", api.ErrSyntax, 16}, {"seeing 0 from", api.ErrEnd, 13}, {"seeing 0 closed", api.ErrSyntax, 9}, {"closed from 2 until 1; closed from", api.ErrRange, 21}, {"closed from 2 until 1; closed from 3 until 2;", api.ErrRange, 21}, {"closed from 1 until 2; closed from 3 until 2; cloud", api.ErrRange, 44}, {"closed from 1 until 2; cloud; closed from 3 until 2;", api.ErrSyntax, 28}, {"cloud 9 seeing", api.ErrSyntax, 8}, {"cloud 9 9999 from 5 until 4", api.ErrEnd, 27}, {"cloud 9 9999 from 5 until 4 5;", api.ErrSyntax, 28}, {"closed from 2 until 1; ?", api.ErrChar, 23}, {"closed from 2 until 1; ? 7x", api.ErrChar, 23}, {"closed from 2 until 1; 7x ?", api.ErrNumber, 23},
	} {
		expectError(t, x.text, x.err, x.at)
	}
}

// P12.1 (L1): 200 spells, and the 201st one, whose `;` has ErrLimit if there is no other error before it.
func TestParseOfTooManySpells(t *testing.T) {
	one := "closed from 0 until 0;"
	many := strings.Repeat(one, 200)
	expectSpells(t, many, slices.Repeat([]api.Spell{closed(0, 0)}, 200)...)
	expectSpells(t, many+" # "+one, slices.Repeat([]api.Spell{closed(0, 0)}, 200)...)
	for behind, x := range map[string]struct {
		err api.Errno
		at  int
	}{
		one: {api.ErrLimit, 21}, " " + one: {api.ErrLimit, 22}, "closed from 0 until 0 ;": {api.ErrLimit, 22}, "cloud 0 0 from 0 until 0\n\n;": {api.ErrLimit, 26}, "seeing 9 from 0 until 0;": {api.ErrLimit, 23}, one + one: {api.ErrLimit, 21}, one + "rain": {api.ErrLimit, 21}, one + "closed from 1 until 0;": {api.ErrLimit, 21}, one + "closed": {api.ErrLimit, 21},
		"closed from 1 until 0;": {api.ErrRange, 21}, "seeing 0 from 0 until 0;": {api.ErrRange, 23}, "closed": {api.ErrEnd, 6}, "closed from 0 until 0": {api.ErrEnd, 21}, "closed from 0 until 0 ": {api.ErrEnd, 22}, "rain": {api.ErrSyntax, 0}, "closed from 0 until 0,": {api.ErrSyntax, 21}, ";": {api.ErrSyntax, 0}, one + "?": {api.ErrChar, 22},
	} {
		expectError(t, many+behind, x.err, len(many)+x.at)
	}
	wrong := strings.Repeat(one, 199) + "closed from 1 until 0;" + one
	expectError(t, wrong, api.ErrRange, 199*22+21)
}

// P12.1 (L2): the canonical source text of each kind, of several spells, and of none.
func TestText(t *testing.T) {
	for _, x := range []struct {
		text string
		l    []api.Spell
	}{
		{"", nil}, {"", []api.Spell{}},
		{"cloud 2 300 from 5 until 9;\nclosed from 9 until 9;\n", []api.Spell{cloud(2, 300, 5, 9), closed(9, 9)}},
		{"cloud 0 0 from 0 until 0;\n", []api.Spell{cloud(0, 0, 0, 0)}}, {"cloud 3 1000 from 38399 until 38399;\n", []api.Spell{cloud(3, 1000, 38399, 38399)}}, {"cloud 1 7 from 0 until 38399;\n", []api.Spell{cloud(1, 7, 0, 38399)}},
		{"seeing 1 from 0 until 38399;\n", []api.Spell{seeing(1, 0, 38399)}}, {"seeing 100 from 7 until 8;\n", []api.Spell{seeing(100, 7, 8)}}, {"closed from 0 until 38399;\n", []api.Spell{closed(0, 38399)}},
		{"seeing 7 from 3 until 4;\nclosed from 1 until 9;\nclosed from 1 until 9;\ncloud 3 2 from 1 until 8;\n", []api.Spell{seeing(7, 3, 4), closed(1, 9), closed(1, 9), cloud(3, 2, 1, 8)}},
		{strings.Repeat("cloud 3 1000 from 38399 until 38399;\n", 200), slices.Repeat([]api.Spell{cloud(3, 1000, 38399, 38399)}, 200)},
	} {
		if text, err := weather.Text(x.l); text != x.text || err != api.OK {
			t.Errorf("Text of %v: %q, error %d; want %q", x.l, text, err, x.text)
		}
		expectSpells(t, x.text, x.l...)
	}
}

// invalidSpells are spells with one field, or several, that must not be so.
func invalidSpells() []api.Spell {
	var l []api.Spell
	for _, kind := range append(far(), -3, -2, -1, 0, 4, 5, 6, 257, 258, 259) {
		l = append(l, api.Spell{Kind: kind}, api.Spell{Kind: kind, N: 1}, api.Spell{Kind: kind, Quarter: 1, N: 1, From: 1, Until: 2})
	}
	for _, n := range append(far(), -3, -2, -1, 4, 5, 256) {
		l = append(l, cloud(n, 0, 0, 0), cloud(n, 1000, 0, 38399))
	}
	for _, n := range append(far(), -2, -1, 1001, 1002, 2000) {
		l = append(l, cloud(0, n, 0, 0), cloud(3, n, 0, 38399))
	}
	for _, n := range append(far(), -10, -2, -1, 0, 101, 102, 1000, 257) {
		l = append(l, seeing(n, 0, 0), seeing(n, 0, 38399))
	}
	for _, n := range append(far(), -4, -3, -2, -1, 1, 2, 3, 4, 10, 100, 1000) {
		l = append(l, api.Spell{Kind: api.SpellSeeing, N: 10, Quarter: n}, api.Spell{Kind: api.SpellClosed, Quarter: n}, api.Spell{Kind: api.SpellClosed, N: n}, api.Spell{Kind: api.SpellClosed, N: n, Quarter: n}, api.Spell{Kind: api.SpellClosed, N: n, Quarter: -n})
	}
	for _, s := range []api.Spell{cloud(1, 5, 0, 0), seeing(5, 0, 0), closed(0, 0)} {
		for _, m := range noMoments() {
			for _, span := range []api.Span{{From: m, Until: m}, {From: m, Until: 0}, {From: m, Until: 38399}, {From: 0, Until: m}, {From: 38399, Until: m}, {From: m, Until: 38400}, {From: -1, Until: m}} {
				s.From, s.Until = span.From, span.Until
				l = append(l, s)
			}
		}
		for _, span := range []api.Span{{From: 1, Until: 0}, {From: 2, Until: 1}, {From: 96, Until: 95}, {From: 38399, Until: 38398}, {From: 38399, Until: 0}} {
			s.From, s.Until = span.From, span.Until
			l = append(l, s)
		}
	}
	return l
}

// refused checks that Text and At refuse spells, at moments and others.
func refused(t *testing.T, l []api.Spell) {
	t.Helper()
	if text, err := weather.Text(l); text != "" || err != api.ErrArg {
		t.Errorf("Text of %v: %q, error %d", l, text, err)
	}
	for _, m := range []int{0, 1, 95, 38399, -1, 38400, math.MinInt, math.MaxInt} {
		if c, err := weather.At(l, m); c != (api.Conditions{}) || err != api.ErrArg {
			t.Errorf("At of %v and %d: %v, error %d", l, m, c, err)
		}
	}
}

// P12.1 (L2, L3), P1: ErrArg for spells that are not valid, alone, and as the first, the last or another one of several.
func TestInvalidSpells(t *testing.T) {
	valid := []api.Spell{cloud(2, 300, 5, 9), closed(9, 9), seeing(10, 0, 0)}
	for _, s := range invalidSpells() {
		refused(t, []api.Spell{s})
		refused(t, append(slices.Clone(valid), s))
		refused(t, append([]api.Spell{s}, valid...))
		refused(t, slices.Insert(slices.Clone(valid), 1, s, s))
	}
	refused(t, append(slices.Repeat(valid[:1], 199), api.Spell{}))
	refused(t, append([]api.Spell{{}}, slices.Repeat(valid[:1], 199)...))
}

// P12.1 (L2, L3), P1: ErrArg for more than 200 spells.
func TestTooManySpells(t *testing.T) {
	for _, s := range []api.Spell{cloud(2, 300, 5, 9), closed(9, 9), seeing(10, 0, 0)} {
		for _, n := range []int{201, 202, 256, 400, 456, 100000} {
			refused(t, slices.Repeat([]api.Spell{s}, n))
		}
		for _, n := range []int{1, 199, 200} {
			l := slices.Repeat([]api.Spell{s}, n)
			if _, err := weather.Text(l); err != api.OK {
				t.Errorf("Text of %d spells: error %d", n, err)
			}
			if _, err := weather.At(l, 9); err != api.OK {
				t.Errorf("At of %d spells: error %d", n, err)
			}
		}
	}
}

// P12.1 (L3): the examples, spells of each kind at the moments around their ends, of a single moment, of all moments, several of a kind in both orders and in different quarters, and no spells.
func TestAt(t *testing.T) {
	example := []api.Spell{cloud(2, 300, 5, 9), closed(9, 9)}
	two := []api.Spell{cloud(1, 0, 10, 20), cloud(1, 1000, 15, 25), seeing(1, 10, 20), seeing(100, 15, 25)}
	exchanged := []api.Spell{two[1], two[0], two[3], two[2]}
	four := []api.Spell{cloud(0, 1, 0, 38399), cloud(3, 4, 7, 38399), cloud(1, 2, 0, 38398), cloud(2, 3, 7, 7)}
	for _, x := range []struct {
		l    []api.Spell
		m    int
		want api.Conditions
	}{
		{nil, 0, usual()}, {[]api.Spell{}, 38399, usual()}, {nil, 9, usual()},
		{example, 4, usual()}, {example, 5, conditions(1000, 1000, 300, 1000, 10, true)}, {example, 8, conditions(1000, 1000, 300, 1000, 10, true)}, {example, 9, conditions(1000, 1000, 300, 1000, 10, false)}, {example, 10, usual()}, {example, 0, usual()}, {example, 38399, usual()},
		{two, 9, usual()}, {two, 10, conditions(1000, 0, 1000, 1000, 1, true)}, {two, 14, conditions(1000, 0, 1000, 1000, 1, true)}, {two, 15, conditions(1000, 1000, 1000, 1000, 100, true)}, {two, 20, conditions(1000, 1000, 1000, 1000, 100, true)}, {two, 25, conditions(1000, 1000, 1000, 1000, 100, true)}, {two, 26, usual()},
		{exchanged, 10, conditions(1000, 0, 1000, 1000, 1, true)}, {exchanged, 15, conditions(1000, 0, 1000, 1000, 1, true)}, {exchanged, 20, conditions(1000, 0, 1000, 1000, 1, true)}, {exchanged, 21, conditions(1000, 1000, 1000, 1000, 100, true)}, {exchanged, 26, usual()},
		{four, 0, conditions(1, 2, 1000, 1000, 10, true)}, {four, 6, conditions(1, 2, 1000, 1000, 10, true)}, {four, 7, conditions(1, 2, 3, 4, 10, true)}, {four, 8, conditions(1, 2, 1000, 4, 10, true)}, {four, 38398, conditions(1, 2, 1000, 4, 10, true)}, {four, 38399, conditions(1, 1000, 1000, 4, 10, true)},
		{[]api.Spell{seeing(1, 0, 0)}, 0, conditions(1000, 1000, 1000, 1000, 1, true)}, {[]api.Spell{seeing(1, 0, 0)}, 1, usual()}, {[]api.Spell{seeing(100, 38399, 38399)}, 38399, conditions(1000, 1000, 1000, 1000, 100, true)}, {[]api.Spell{seeing(100, 38399, 38399)}, 38398, usual()},
		{[]api.Spell{closed(0, 38399)}, 0, conditions(1000, 1000, 1000, 1000, 10, false)}, {[]api.Spell{closed(0, 38399)}, 38399, conditions(1000, 1000, 1000, 1000, 10, false)}, {[]api.Spell{closed(1, 1), closed(3, 4)}, 2, usual()}, {[]api.Spell{closed(1, 3), closed(3, 4)}, 3, conditions(1000, 1000, 1000, 1000, 10, false)}, {[]api.Spell{closed(1, 3), closed(3, 4)}, 4, conditions(1000, 1000, 1000, 1000, 10, false)},
		{append(slices.Repeat([]api.Spell{cloud(3, 7, 0, 5)}, 199), cloud(3, 8, 5, 6)), 5, conditions(1000, 1000, 1000, 8, 10, true)}, {append(slices.Repeat([]api.Spell{cloud(3, 7, 0, 5)}, 199), cloud(3, 8, 5, 6)), 4, conditions(1000, 1000, 1000, 7, 10, true)},
	} {
		if c, err := weather.At(x.l, x.m); c != x.want || err != api.OK {
			t.Errorf("At of %v and %d: %v, error %d; want %v", x.l, x.m, c, err, x.want)
		}
	}
}

// P12.1 (L3), P1: ErrArg for what is no moment, with valid spells, none, and those that are not valid.
func TestAtNoMoment(t *testing.T) {
	for _, m := range noMoments() {
		for _, l := range [][]api.Spell{nil, {closed(0, 38399)}, {cloud(2, 300, 5, 9), seeing(1, 0, 0)}, {{}}, {closed(m, m)}, {closed(0, m)}, {closed(m, 38399)}} {
			if c, err := weather.At(l, m); c != (api.Conditions{}) || err != api.ErrArg {
				t.Errorf("At of %v and %d: %v, error %d", l, m, c, err)
			}
		}
	}
}

// P12.1 (L4): the phases around the new and the full moon, the columns where they begin anew, and the examples.
func TestMoon(t *testing.T) {
	for _, x := range [][3]int{
		{0, 0, 0}, {1, 66, 1}, {2, 133, 2}, {3, 200, 3}, {7, 466, 7}, {13, 866, 13}, {14, 933, 14}, {15, 1000, 15}, {16, 933, 16}, {17, 866, 17}, {28, 133, 28}, {29, 66, 29}, {30, 0, 30}, {31, 66, 31}, {32, 133, 0}, {33, 200, 1},
		{44, 933, 12}, {45, 1000, 13}, {46, 933, 14}, {59, 66, 27}, {60, 0, 28}, {63, 200, 31}, {64, 266, 0}, {105, 1000, 9}, {374, 933, 22}, {375, 1000, 23}, {376, 933, 24}, {389, 66, 5}, {390, 0, 6}, {391, 66, 7}, {398, 533, 14}, {399, 600, 15},
	} {
		if brightness, column, err := weather.Moon(x[0]); brightness != x[1] || column != x[2] || err != api.OK {
			t.Errorf("Moon(%d): %d, %d, error %d; want %d, %d", x[0], brightness, column, err, x[1], x[2])
		}
	}
}

// P12.1 (L4): the column of the moon, those around it on both sides, also across the end of the columns, the opposite one, all bands, and the examples.
func TestBackground(t *testing.T) {
	for _, x := range [][3]int{
		{15, 15, 10}, {15, 31, 0}, {15, 16, 9}, {15, 14, 9}, {15, 13, 8}, {15, 17, 8}, {15, 30, 0}, {15, 0, 0}, {15, 1, 1}, {15, 29, 1}, {15, 28, 1}, {15, 27, 2}, {15, 47, 10}, {15, 495, 10}, {15, 511, 0}, {15, 480, 0}, {15, 32, 0}, {15, 63, 0},
		{16, 16, 9}, {16, 17, 8}, {16, 15, 8}, {16, 0, 0}, {16, 31, 0}, {16, 1, 0}, {16, 24, 4}, {16, 8, 4}, {16, 26, 3}, {14, 14, 9}, {14, 30, 0}, {14, 22, 4}, {14, 6, 4},
		{45, 13, 10}, {45, 29, 0}, {45, 0, 1}, {45, 26, 1}, {45, 25, 2}, {45, 31, 1}, {45, 1, 2}, {105, 9, 10}, {105, 31, 3}, {105, 0, 4}, {105, 19, 3}, {105, 25, 0}, {105, 24, 0}, {105, 23, 1}, {105, 27, 1}, {105, 26, 0},
		{0, 0, 0}, {0, 16, 0}, {30, 30, 0}, {390, 6, 0}, {1, 1, 0}, {29, 29, 0}, {2, 2, 1}, {2, 3, 1}, {2, 1, 1}, {2, 0, 1}, {2, 5, 1}, {2, 6, 0}, {2, 31, 1}, {2, 30, 0}, {32, 0, 1}, {32, 31, 1}, {32, 1, 1}, {32, 28, 0}, {399, 15, 6}, {399, 511, 0}, {63, 31, 2}, {63, 0, 1}, {63, 30, 1},
	} {
		if light, err := weather.Background(x[0], x[1]); light != x[2] || err != api.OK {
			t.Errorf("Background(%d, %d): %d, error %d; want %d", x[0], x[1], light, err, x[2])
		}
	}
}

// P12.1 (L4), P1: ErrArg if there is no such night, or no such tile, or neither.
func TestNoNightOrNoTile(t *testing.T) {
	check := func(night, tile int) {
		if light, err := weather.Background(night, tile); light != 0 || err != api.ErrArg {
			t.Errorf("Background(%d, %d): %d, error %d", night, tile, light, err)
		}
	}
	for _, night := range noNights() {
		if brightness, column, err := weather.Moon(night); brightness != 0 || column != 0 || err != api.ErrArg {
			t.Errorf("Moon(%d): %d, %d, error %d", night, brightness, column, err)
		}
		for _, tile := range append(noTiles(), 0, 1, 15, 31, 32, 511) {
			check(night, tile)
		}
	}
	for _, tile := range noTiles() {
		for night := range 400 {
			check(night, tile)
		}
	}
}
