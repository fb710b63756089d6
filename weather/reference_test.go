package weather_test

import (
	"fmt"
	"math/rand"
	"regexp"
	"slices"
	"strconv"
	"strings"
	"testing"

	"observatory/api"
	"observatory/lexer"
	"observatory/weather"
)

// A form is how spells of a kind are written, with # for numbers, and the greatest of these; the least ones are 0, but for seeings.
type form struct {
	kind  int
	words string
	most  []int
}

func forms() map[string]form {
	return map[string]form{
		"cloud":  {api.SpellCloud, "cloud # # from # until # ;", []int{3, 1000, 38399, 38399}},
		"seeing": {api.SpellSeeing, "seeing # from # until # ;", []int{100, 38399, 38399}},
		"closed": {api.SpellClosed, "closed from # until # ;", []int{38399, 38399}},
	}
}

// wordOf returns a token as it is in a form.
func wordOf(token api.Token) string {
	switch token.Kind {
	case api.TokNumber:
		return "#"
	case api.TokString:
		return `"` + token.Text
	default:
		return token.Text
	}
}

// spellOf returns the spell of a form with its numbers, and whether these are valid.
func spellOf(f form, numbers []int) (api.Spell, bool) {
	ok := true
	for i, n := range numbers {
		ok = ok && n <= f.most[i]
	}
	n := len(numbers)
	s := api.Spell{Kind: f.kind, From: numbers[n-2], Until: numbers[n-1]}
	if n > 2 {
		s.N = numbers[n-3]
	}
	if n > 3 {
		s.Quarter = numbers[0]
	}
	return s, ok && s.From <= s.Until && (s.Kind != api.SpellSeeing || s.N > 0)
}

// parsed is what Parse must return.
func parsed(text string) ([]api.Spell, api.Errno, int) {
	tokens, err, at := lexer.Lex(text)
	if err != api.OK {
		return nil, err, at
	}
	var l []api.Spell
	for len(tokens) > 0 {
		f, known := forms()[wordOf(tokens[0])]
		if !known {
			return nil, api.ErrSyntax, tokens[0].At
		}
		words := strings.Fields(f.words)
		var numbers []int
		for i, word := range words {
			if i == len(tokens) {
				return nil, api.ErrEnd, len(text)
			}
			if wordOf(tokens[i]) != word {
				return nil, api.ErrSyntax, tokens[i].At
			}
			if word == "#" {
				numbers = append(numbers, tokens[i].N)
			}
		}
		s, ok := spellOf(f, numbers)
		end := tokens[len(words)-1].At
		if !ok {
			return nil, api.ErrRange, end
		}
		if len(l) == 200 {
			return nil, api.ErrLimit, end
		}
		l = append(l, s)
		tokens = tokens[len(words):]
	}
	return l, api.OK, 0
}

var (
	gap   = `(?:[ \t\n]|#[^\n]*\n)`
	tail  = `(?:#[^\n]*)?`
	word  = `(?:cloud` + gap + `+(\d{1,13})` + gap + `+(\d{1,13})|seeing` + gap + `+(\d{1,13})|closed)` + gap + `+from` + gap + `+(\d{1,13})` + gap + `+until` + gap + `+(\d{1,13})` + gap + `*;` + gap + `*`
	whole = regexp.MustCompile(`\A` + gap + `*(?:` + word + `)*` + tail + `\z`)
	spell = regexp.MustCompile(`\A` + gap + `*` + word)
)

// matched returns the spells of a text, if it has the form of one, read by regular expressions instead of layer 8.
func matched(text string) ([]api.Spell, bool) {
	if len(text) > 20000 || !whole.MatchString(text) {
		return nil, false
	}
	var l []api.Spell
	for m := spell.FindStringSubmatch(text); m != nil; m = spell.FindStringSubmatch(text) {
		number := func(i int) int {
			n, _ := strconv.Atoi(m[i])
			return n
		}
		s := api.Spell{Kind: api.SpellClosed, From: number(4), Until: number(5)}
		if m[3] != "" {
			s.Kind, s.N = api.SpellSeeing, number(3)
		}
		if m[1] != "" {
			s.Kind, s.Quarter, s.N = api.SpellCloud, number(1), number(2)
		}
		l = append(l, s)
		text = text[len(m[0]):]
	}
	return l, !slices.ContainsFunc(l, func(s api.Spell) bool { return !isValid(s) }) && len(l) <= 200
}

// isValid reports whether a spell is valid, as the table of the document says.
func isValid(s api.Spell) bool {
	if s.From < 0 || s.Until > 38399 || s.From > s.Until {
		return false
	}
	switch s.Kind {
	case api.SpellCloud:
		return s.Quarter >= 0 && s.Quarter <= 3 && s.N >= 0 && s.N <= 1000
	case api.SpellSeeing:
		return s.Quarter == 0 && s.N >= 1 && s.N <= 100
	default:
		return s.Kind == api.SpellClosed && s.Quarter == 0 && s.N == 0
	}
}

// compare compares what Parse returns with both readings of a text, and what it accepts with what is valid.
func compare(t *testing.T, text string) {
	l, err, at := weather.Parse(text)
	if want, wantErr, wantAt := parsed(text); !slices.Equal(l, want) || err != wantErr || at != wantAt {
		t.Errorf("Parse of %.300q: %v, error %d, %d; want %v, error %d, %d", text, l, err, at, want, wantErr, wantAt)
	}
	want, ok := matched(text)
	if ok != (err == api.OK) || ok && !slices.Equal(l, want) {
		t.Errorf("Parse of %.300q: %v, error %d, %d; matched %v, %v", text, l, err, at, want, ok)
	}
	if _, refused := weather.Text(l); refused != api.OK {
		t.Errorf("Parse of %.300q: %v, which is not valid", text, l)
	}
}

func pick[T any](random *rand.Rand, list ...T) T { return list[random.Intn(len(list))] }

// anyMoment returns any moment, often the first or the last one, or one of the first ones.
func anyMoment(random *rand.Rand) int {
	return pick(random, 0, 38399, random.Intn(20), random.Intn(200), random.Intn(38400))
}

// anySpell returns any valid spell.
func anySpell(random *rand.Rand) api.Spell {
	a, b := anyMoment(random), anyMoment(random)
	a, b = min(a, b), pick(random, min(a, b), max(a, b))
	switch random.Intn(3) {
	case 0:
		return cloud(random.Intn(4), pick(random, 0, 1000, random.Intn(1001)), a, b)
	case 1:
		return seeing(pick(random, 1, 100, 10, 1+random.Intn(100)), a, b)
	default:
		return closed(a, b)
	}
}

// anySpells returns so many valid spells.
func anySpells(random *rand.Rand, n int) []api.Spell {
	var l []api.Spell
	for range n {
		l = append(l, anySpell(random))
	}
	return l
}

// wordsOf returns the tokens of spells, as they are written.
func wordsOf(l []api.Spell) []string {
	var words []string
	for _, s := range l {
		switch s.Kind {
		case api.SpellCloud:
			words = append(words, "cloud", strconv.Itoa(s.Quarter), strconv.Itoa(s.N))
		case api.SpellSeeing:
			words = append(words, "seeing", strconv.Itoa(s.N))
		default:
			words = append(words, "closed")
		}
		words = append(words, "from", strconv.Itoa(s.From), "until", strconv.Itoa(s.Until), ";")
	}
	return words
}

// canonical returns the canonical source text of spells.
func canonical(l []api.Spell) string {
	var text strings.Builder
	for _, s := range l {
		switch s.Kind {
		case api.SpellCloud:
			fmt.Fprintf(&text, "cloud %d %d", s.Quarter, s.N)
		case api.SpellSeeing:
			fmt.Fprintf(&text, "seeing %d", s.N)
		default:
			fmt.Fprintf(&text, "closed")
		}
		fmt.Fprintf(&text, " from %d until %d;\n", s.From, s.Until)
	}
	return text.String()
}

// others are tokens of all kinds, and what is none.
func others() []string {
	return []string{
		"cloud", "seeing", "closed", "from", "until", "Cloud", "x", "fro", "until_", ";", ",", ":", "-", "==", "=", "0", "1", "3", "4", "007", "100", "101", "1000", "1001", "38399", "38400", "9999999999999", "0000000000001",
		`""`, `"from"`, `"cloud"`, `";"`, `"1"`, "?", "7x", "00000000000001", `"`, "#", "abcdefghijklmnopqrstuvwxy", "abcdefghijklmnopqrstuvwx",
	}
}

// P12.1 (L1), P1: each token of each kind of spell left out, doubled, exchanged with the next one, or replaced by another one, with another spell before and behind; and the texts that end at each byte.
func TestParseOfChangedTexts(t *testing.T) {
	around := wordsOf([]api.Spell{closed(3, 4)})
	for _, s := range []api.Spell{cloud(2, 300, 5, 9), seeing(42, 0, 38399), closed(7, 7)} {
		words := wordsOf([]api.Spell{s})
		for i := range words {
			changed := [][]string{
				slices.Delete(slices.Clone(words), i, i+1),
				slices.Insert(slices.Clone(words), i, words[i]),
			}
			if i > 0 {
				exchanged := slices.Clone(words)
				exchanged[i-1], exchanged[i] = exchanged[i], exchanged[i-1]
				changed = append(changed, exchanged)
			}
			for _, other := range others() {
				changed = append(changed, slices.Replace(slices.Clone(words), i, i+1, other), slices.Insert(slices.Clone(words), i, other))
			}
			for _, list := range changed {
				compare(t, strings.Join(list, " "))
				compare(t, strings.Join(list, "\n")+"\n")
				compare(t, strings.Join(slices.Concat(around, list, around), " "))
			}
		}
		text := canonical([]api.Spell{closed(3, 4), s, seeing(9, 0, 1)})
		for i := range len(text) + 1 {
			compare(t, text[:i])
			compare(t, text[i:])
			compare(t, text[:i]+"?"+text[i:])
			compare(t, text[:i]+" "+text[i:])
			compare(t, text[:i]+"#\n"+text[i:])
			compare(t, text[:i]+text[min(i+1, len(text)):])
		}
	}
}

// P12.1 (L1): numbers around the ends of their ranges in all fields together.
func TestParseOfAllRanges(t *testing.T) {
	moments := []int{0, 1, 38398, 38399, 38400}
	for _, from := range moments {
		for _, until := range moments {
			compare(t, fmt.Sprintf("closed from %d until %d;", from, until))
			for _, n := range []int{0, 1, 2, 99, 100, 101, 999, 1000, 1001} {
				compare(t, fmt.Sprintf("seeing %d from %d until %d;", n, from, until))
				for quarter := range 6 {
					compare(t, fmt.Sprintf("cloud %d %d from %d until %d;", quarter, n, from, until))
				}
			}
		}
	}
	for n := range 1200 {
		compare(t, fmt.Sprintf("seeing %d from 0 until 0;", n))
		compare(t, fmt.Sprintf("cloud 0 %d from 0 until 0;", n))
	}
}

// P12.1 (L1), P1: any texts of tokens, most of which are wrong somewhere, and any bytes.
func TestParseOfAnyTexts(t *testing.T) {
	random := rand.New(rand.NewSource(1))
	for range 20000 {
		words := wordsOf(anySpells(random, random.Intn(4)))
		for range random.Intn(4) {
			i := random.Intn(len(words) + 1)
			words = slices.Replace(words, i, min(i+random.Intn(2), len(words)), pick(random, others()...))
		}
		compare(t, strings.Join(words, pick(random, " ", "\n", " \t", "#\n")))
	}
	for range 20000 {
		text := []byte(canonical(anySpells(random, 1+random.Intn(2))))
		for range 1 + random.Intn(3) {
			text[random.Intn(len(text))] = pick(random, byte(random.Intn(256)), ';', '1', ' ', 'c', '#', '"')
		}
		compare(t, string(text))
	}
	for range 5000 {
		text := make([]byte, random.Intn(40))
		random.Read(text)
		compare(t, string(text))
	}
}

// P12.1 (L1): the 201st spell of any spells, and errors in any one of many.
func TestParseOfManySpells(t *testing.T) {
	random := rand.New(rand.NewSource(2))
	for n := 196; n < 206; n++ {
		l := anySpells(random, n)
		compare(t, canonical(l))
		compare(t, strings.Join(wordsOf(l), "\n"))
		for _, i := range []int{0, 1, 100, 195, n - 2, n - 1} {
			wrong := slices.Clone(l)
			wrong[i] = pick(random, seeing(0, 0, 0), seeing(101, 0, 0), closed(1, 0), cloud(4, 0, 0, 0), closed(0, 38400))
			compare(t, canonical(wrong))
			words := wordsOf(l)
			words[random.Intn(len(words))] = pick(random, others()...)
			compare(t, strings.Join(words, " "))
		}
	}
}
