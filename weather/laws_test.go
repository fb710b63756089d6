package weather_test

import (
	"fmt"
	"math/rand"
	"slices"
	"strings"
	"sync"
	"testing"

	"observatory/api"
	"observatory/lexer"
	"observatory/weather"
)

// at returns the conditions of a moment, which there must be.
func at(t *testing.T, l []api.Spell, m int) api.Conditions {
	c, err := weather.At(l, m)
	if err != api.OK {
		t.Fatalf("At of %v and %d: error %d", l, m, err)
	}
	return c
}

// edges returns the moments around the ends of spells, and the first and the last ones.
func edges(l []api.Spell) []int {
	moments := []int{0, 1, 38398, 38399}
	for _, s := range l {
		moments = append(moments, s.From-1, s.From, s.From+1, s.Until-1, s.Until, s.Until+1)
	}
	slices.Sort(moments)
	return slices.DeleteFunc(slices.Compact(moments), func(m int) bool { return m < 0 || m > 38399 })
}

func inForce(s api.Spell, m int) bool { return s.From <= m && m <= s.Until }

// sought returns the conditions of a moment, each of which is sought from the end of the list on.
func sought(l []api.Spell, m int) api.Conditions {
	last := func(kind, quarter, usual int) int {
		for i := len(l) - 1; i >= 0; i-- {
			if s := l[i]; s.Kind == kind && s.Quarter == quarter && inForce(s, m) {
				return s.N
			}
		}
		return usual
	}
	return conditions(last(api.SpellCloud, 0, 1000), last(api.SpellCloud, 1, 1000), last(api.SpellCloud, 2, 1000), last(api.SpellCloud, 3, 1000), last(api.SpellSeeing, 0, 10), last(api.SpellClosed, 0, 1) == 1)
}

// lists returns lists of valid spells: empty, short and long ones.
func lists(random *rand.Rand) [][]api.Spell {
	l := [][]api.Spell{nil, {closed(0, 38399)}, {seeing(1, 0, 0)}, {cloud(3, 0, 38399, 38399)}, anySpells(random, 200), anySpells(random, 199)}
	for range 600 {
		l = append(l, anySpells(random, 1+random.Intn(12)))
	}
	return l
}

// P12.1 (L2), P12.2: any valid spells, their canonical texts, and these with all that is longest.
func TestTextAndParseUndoEachOther(t *testing.T) {
	random := rand.New(rand.NewSource(3))
	longest := slices.Repeat([]api.Spell{cloud(3, 1000, 38398, 38399)}, 200)
	for _, l := range append(lists(random), longest) {
		text, err := weather.Text(l)
		if text != canonical(l) || err != api.OK {
			t.Fatalf("Text of %v: %q, error %d", l, text, err)
		}
		expectSpells(t, text, l...)
		if again, err, _ := weather.Parse(strings.TrimSpace(text)); !slices.Equal(again, l) || err != api.OK {
			t.Errorf("Parse of %.300q without the last line feed: %v, error %d", text, again, err)
		}
	}
	if text, _ := weather.Text(longest); len(text) != 200*37 {
		t.Errorf("the longest text has %d bytes", len(text))
	}
}

// P12.2: what Parse returns without an error for texts of any tokens is valid.
func TestParsedSpellsAreValid(t *testing.T) {
	random := rand.New(rand.NewSource(4))
	accepted := 0
	for range 60000 {
		text := pick(random, "cloud %d %d from %d until %d;", "seeing %[2]d from %[3]d until %[4]d;", "closed from %[3]d until %[4]d;")
		text = fmt.Sprintf(text, random.Intn(6), random.Intn(1200), anyMoment(random)+random.Intn(2), anyMoment(random)+random.Intn(2))
		text, _, _ = strings.Cut(text, "%!")
		l, err, _ := weather.Parse(text)
		if err == api.OK {
			accepted++
		}
		for _, s := range l {
			if !isValid(s) {
				t.Fatalf("Parse of %q: %v", text, l)
			}
		}
	}
	if accepted < 10000 {
		t.Errorf("only %d texts were accepted", accepted)
	}
}

// anyGap returns a gap of at least so many parts.
func anyGap(random *rand.Rand, least int) string {
	var gap strings.Builder
	for range least + random.Intn(3) {
		gap.WriteString(pick(random, " ", "\t", "\n", "#\n", "# closed;\n", "#7x \"?\n", "  "))
	}
	return gap.String()
}

// P12.3: further gaps at the beginning, the end, and between all tokens of texts with and without errors; an error stays at its token.
func TestGaps(t *testing.T) {
	random := rand.New(rand.NewSource(5))
	for range 10000 {
		words := wordsOf(anySpells(random, 1+random.Intn(4)))
		for range random.Intn(2) {
			words[random.Intn(len(words))] = pick(random, "cloud", "from", ";", "0", "7", "38400", `"x"`, "9999999999999")
		}
		if random.Intn(3) == 0 {
			words = words[:random.Intn(len(words))]
		}
		narrow := strings.Join(words, " ")
		tokens, _, _ := lexer.Lex(narrow)
		places := map[int]int{}
		var wide strings.Builder
		wide.WriteString(anyGap(random, 0))
		for i, word := range words {
			places[tokens[i].At] = wide.Len()
			wide.WriteString(word + anyGap(random, 1))
		}
		wide.WriteString(pick(random, "", "#", "# closed"))
		places[len(narrow)] = wide.Len()
		l, err, offset := weather.Parse(narrow)
		if err == api.OK {
			expectSpells(t, wide.String(), l...)
		} else {
			expectError(t, wide.String(), err, places[offset])
		}
	}
}

// P12.3: gaps that make a text as long as it may be, at each place between two tokens, and one byte more.
func TestGreatestGaps(t *testing.T) {
	words := wordsOf([]api.Spell{cloud(2, 300, 5, 9), seeing(7, 1, 2), closed(9, 9)})
	for i := range len(words) + 1 {
		before, behind := strings.Join(words[:i], " "), strings.Join(words[i:], " ")
		for _, filling := range []string{" ", "\n", "\t"} {
			gap := strings.Repeat(filling, 20000-len(before)-len(behind))
			expectSpells(t, before+gap+behind, cloud(2, 300, 5, 9), seeing(7, 1, 2), closed(9, 9))
			expectError(t, before+gap+filling+behind, api.ErrLimit, -1)
		}
	}
}

// P12.1 (L3): conditions around the ends of all spells of any lists.
func TestConditions(t *testing.T) {
	for _, l := range lists(rand.New(rand.NewSource(6))) {
		for _, m := range edges(l) {
			if c := at(t, l, m); c != sought(l, m) {
				t.Fatalf("At of %v and %d: %v; want %v", l, m, c, sought(l, m))
			}
		}
	}
}

// P12.1 (L3), P12.4: all moments, painted with one spell after the other.
func TestConditionsOfAllMoments(t *testing.T) {
	random := rand.New(rand.NewSource(7))
	for _, n := range []int{0, 1, 3, 30, 200} {
		l := anySpells(random, n)
		painted := slices.Repeat([]api.Conditions{usual()}, 38400)
		for _, s := range l {
			for m := s.From; m <= s.Until; m++ {
				switch s.Kind {
				case api.SpellCloud:
					painted[m].Clear[s.Quarter] = s.N
				case api.SpellSeeing:
					painted[m].Seeing = s.N
				default:
					painted[m].Open = false
				}
			}
		}
		for m, want := range painted {
			if c := at(t, l, m); c != want {
				t.Fatalf("At of %v and %d: %v; want %v", l, m, c, want)
			}
		}
	}
}

// said returns what a spell says in place of conditions.
func said(c api.Conditions, s api.Spell) api.Conditions {
	switch s.Kind {
	case api.SpellCloud:
		clear := c.Clear
		clear[s.Quarter] = s.N
		return conditions(clear[0], clear[1], clear[2], clear[3], c.Seeing, c.Open)
	case api.SpellSeeing:
		return conditions(c.Clear[0], c.Clear[1], c.Clear[2], c.Clear[3], s.N, c.Open)
	default:
		return conditions(c.Clear[0], c.Clear[1], c.Clear[2], c.Clear[3], c.Seeing, false)
	}
}

// P12.4: a further spell at the end of lists, also as the 200th one.
func TestTheLastOneCounts(t *testing.T) {
	random := rand.New(rand.NewSource(8))
	for _, l := range lists(random) {
		for range 4 {
			if len(l) == 200 {
				l = l[:199]
			}
			s := anySpell(random)
			more := append(slices.Clone(l), s)
			for _, m := range edges(more) {
				want := at(t, l, m)
				if inForce(s, m) {
					want = said(want, s)
				}
				if c := at(t, more, m); c != want {
					t.Fatalf("At of %v and %d: %v; want %v", more, m, c, want)
				}
			}
		}
	}
}

// P12.5: two neighbours that are never in force at the same moment, anywhere in a list; the others make a difference.
func TestOrder(t *testing.T) {
	random := rand.New(rand.NewSource(9))
	apart, different := 0, 0
	for _, l := range lists(random) {
		for i := 1; i < len(l); i++ {
			exchanged := slices.Clone(l)
			exchanged[i-1], exchanged[i] = exchanged[i], exchanged[i-1]
			disjoint := l[i-1].Until < l[i].From || l[i].Until < l[i-1].From
			if disjoint {
				apart++
			}
			for _, m := range edges(l) {
				a, b := at(t, l, m), at(t, exchanged, m)
				if a != b && disjoint {
					t.Fatalf("At of %v and %d: %v; with %d and %d exchanged %v", l, m, a, i-1, i, b)
				} else if a != b {
					different++
				}
			}
		}
	}
	if apart < 100 || different < 100 {
		t.Errorf("%d neighbours were apart, %d moments different", apart, different)
	}
}

// P12.6: all moments at which the same spells are in force.
func TestSpans(t *testing.T) {
	random := rand.New(rand.NewSource(10))
	for _, n := range []int{0, 1, 2, 5, 20, 60} {
		l := anySpells(random, n)
		known := map[string]api.Conditions{}
		for m := range 38400 {
			var same strings.Builder
			for i, s := range l {
				if inForce(s, m) {
					fmt.Fprint(&same, i, " ")
				}
			}
			c := at(t, l, m)
			if before, ok := known[same.String()]; ok && before != c {
				t.Fatalf("At of %v and %d: %v; before, %v", l, m, c, before)
			}
			known[same.String()] = c
		}
	}
}

// moon returns what Moon returns for a night, which there must be.
func moon(t *testing.T, night int) (int, int) {
	brightness, column, err := weather.Moon(night)
	if err != api.OK {
		t.Fatalf("Moon(%d): error %d", night, err)
	}
	return brightness, column
}

// light returns what Background returns for a night and a tile, which there must be.
func light(t *testing.T, night, tile int) int {
	n, err := weather.Background(night, tile)
	if err != api.OK {
		t.Fatalf("Background(%d, %d): error %d", night, tile, err)
	}
	return n
}

// P12.1 (L4), P12.7: the moon night by night: it waxes for 15 nights and wanes for 15 ones, and is one column further in each.
func TestMoonNightByNight(t *testing.T) {
	// fifteenths are the fifteenth parts of the brightness in all nights.
	fifteenths, step, place := 0, 1000, 0
	for night := range 400 {
		brightness, column := moon(t, night)
		if brightness != fifteenths/15 || column != place || brightness < 0 || brightness > 1000 {
			t.Fatalf("Moon(%d): %d, %d; want %d, %d", night, brightness, column, fifteenths/15, place)
		}
		fifteenths += step
		if fifteenths == 15000 || fifteenths == 0 {
			step = -step
		}
		place++
		if place == 32 {
			place = 0
		}
	}
}

// P12.7: two nights whose numbers add up to a multiple of 30.
func TestEqualBrightness(t *testing.T) {
	for a := range 400 {
		for b := range 400 {
			one, _ := moon(t, a)
			other, _ := moon(t, b)
			if (a+b)%30 == 0 && one != other {
				t.Fatalf("Moon(%d) and Moon(%d): %d and %d", a, b, one, other)
			}
		}
	}
}

// steps returns the distance of two columns, step by step to the right and to the left.
func steps(a, b int) int {
	right, left := a, a
	for n := 0; ; n++ {
		if right == b || left == b {
			return n
		}
		right++
		if right == 32 {
			right = 0
		}
		left--
		if left == -1 {
			left = 31
		}
	}
}

// P12.1 (L4), P12.7: all nights and all tiles.
func TestLightOfAllTiles(t *testing.T) {
	for night := range 400 {
		brightness, column := moon(t, night)
		for tile := range 512 {
			d := steps(column, tile%32)
			want := brightness * (16 - d) / 1600
			if n := light(t, night, tile); n != want || d == 0 && n != brightness/100 || d == 16 && n != 0 || n > light(t, night, column) {
				t.Fatalf("Background(%d, %d): %d; want %d", night, tile, n, want)
			}
		}
	}
}

// P12.7: the columns so many steps to the right and to the left of the moon, in all bands.
func TestLightOnBothSides(t *testing.T) {
	for night := range 400 {
		_, column := moon(t, night)
		right, left := column, column
		for d := range 17 {
			want := light(t, night, right)
			for band := range 16 {
				if a, b := light(t, night, 32*band+right), light(t, night, 32*band+left); a != want || b != want {
					t.Fatalf("night %d, band %d, distance %d: %d and %d; want %d", night, band, d, a, b, want)
				}
			}
			right, left = (right+1)%32, (left+31)%32
		}
	}
}

// P3: the same calls again, and their arguments, which remain as they were, also behind their ends.
func TestAgain(t *testing.T) {
	random := rand.New(rand.NewSource(11))
	for _, l := range lists(random) {
		room := append(slices.Clone(l), api.Spell{Kind: 7, N: -1})
		given := room[:len(l)]
		text, err := weather.Text(given)
		parts, _, _ := weather.Parse(text)
		if again, errAgain := weather.Text(given); again != text || errAgain != err {
			t.Errorf("Text of %v: %q, then %q", l, text, again)
		}
		for _, m := range append(edges(l), -1, 38400) {
			c, err := weather.At(given, m)
			if again, errAgain := weather.At(given, m); again != c || errAgain != err {
				t.Errorf("At of %v and %d: %v, then %v", l, m, c, again)
			}
		}
		if !slices.Equal(given, l) || room[len(l)] != (api.Spell{Kind: 7, N: -1}) {
			t.Fatalf("%v became %v", l, room)
		}
		// What one call returned is changed, which must not change what the next one returns.
		for i := range parts {
			parts[i] = api.Spell{}
		}
		expectSpells(t, text, l...)
	}
}

// P3: results of calls at the same time.
func TestAtTheSameTime(t *testing.T) {
	l := anySpells(rand.New(rand.NewSource(12)), 150)
	text := canonical(l)
	var group sync.WaitGroup
	for i := range 8 {
		group.Go(func() {
			for range 20 {
				expectSpells(t, text, l...)
				expectError(t, text+strings.Repeat(" ", i)+"closed;", api.ErrSyntax, len(text)+i+6)
				if again, err := weather.Text(l); again != text || err != api.OK {
					t.Errorf("Text of %v: %q, error %d", l, again, err)
				}
				for _, m := range edges(l) {
					if c, err := weather.At(l, m); c != sought(l, m) || err != api.OK {
						t.Errorf("At of %v and %d: %v, error %d", l, m, c, err)
					}
				}
				if n, err := weather.Background(15, 15+i); n != (1000*(16-i))/1600 || err != api.OK {
					t.Errorf("Background(15, %d): %d, error %d", 15+i, n, err)
				}
			}
		})
	}
	group.Wait()
}
