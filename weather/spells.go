package weather

import (
	"observatory/api"
	"observatory/calendar"
)

const (
	quarters = 4
	clearest = 1000 // the transparency without clouds
	usual    = 10   // the seeing that is not said otherwise
	blurred  = 100  // the greatest seeing
)

// A change makes another number of that of a field, whose least and greatest valid numbers it is told.
type change func(n, least, most int) int

// A need says what spells of a kind need: it returns a spell in which each field that the kind has is changed, in the order of source texts.
type need func(s api.Spell, number change) api.Spell

// A table has the needs of spells by their kinds.
type table map[int]need

func needs() table {
	return table{
		api.SpellCloud: func(s api.Spell, number change) api.Spell {
			s.Quarter = number(s.Quarter, 0, quarters-1)
			s.N = number(s.N, 0, clearest)
			return s
		},
		api.SpellSeeing: func(s api.Spell, number change) api.Spell {
			s.N = number(s.N, 1, blurred)
			return s
		},
		api.SpellClosed: func(s api.Spell, _ change) api.Spell {
			return s
		},
	}
}

// names returns the names of the kinds of spells; there is no kind 0.
func names() [4]string {
	return [...]string{api.SpellCloud: "cloud", api.SpellSeeing: "seeing", api.SpellClosed: "closed"}
}

// valid reports whether all these spells are valid, however many they are.
func (kinds table) valid(l ...api.Spell) bool {
	fits := true
	check := func(n, least, most int) int {
		fits = fits && least <= n && n <= most
		return 0
	}
	for _, s := range l {
		fields, known := kinds[s.Kind]
		if !known || !isMoment(s.From) || !isMoment(s.Until) || s.From > s.Until {
			return false
		}
		// A number that is still there is in a field that the kind doesn't have.
		if left := fields(s, check); !fits || left.Quarter != 0 || left.N != 0 {
			return false
		}
	}
	return true
}

// validList reports whether spells are valid as a list.
func (kinds table) validList(l []api.Spell) bool {
	return len(l) <= api.MaxSpells && kinds.valid(l...)
}

func isMoment(m int) bool {
	_, err := calendar.Sidereal(m)
	return err == api.OK
}

// under returns conditions under a further spell that is in force.
func under(c api.Conditions, s api.Spell) api.Conditions {
	switch s.Kind {
	case api.SpellCloud:
		c.Clear[s.Quarter] = s.N
	case api.SpellSeeing:
		c.Seeing = s.N
	case api.SpellClosed:
		c.Open = false
	}
	return c
}
