package weather

import (
	"slices"

	"observatory/api"
)

// A fault is the error of a source text and its offset; a panic carries it out of the reading of a spell.
type fault struct {
	err api.Errno
	at  int
}

// expected reports whether a token has a kind and is one of the words, if there are any.
func expected(token api.Token, kind int, words []string) bool {
	return token.Kind == kind && (len(words) == 0 || slices.Contains(words, token.Text))
}

// read returns the spell whose tokens are taken, and the offset of its last one.
func (kinds table) read(take func(kind int, words ...string) api.Token) (api.Spell, int) {
	all := names()
	kind := slices.Index(all[:], take(api.TokName, all[1:]...).Text)
	number := func(_, _, _ int) int { return take(api.TokNumber).N }
	s := kinds[kind](api.Spell{Kind: kind}, number)
	take(api.TokName, "from")
	s.From = take(api.TokNumber).N
	take(api.TokName, "until")
	s.Until = take(api.TokNumber).N
	end := take(api.TokSymbol, ";")
	if !kinds.valid(s) {
		panic(fault{api.ErrRange, end.At})
	}
	return s, end.At
}
