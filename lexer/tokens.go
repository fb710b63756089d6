package lexer

import "observatory/api"

// maxDigits is not api.MaxDigits, which is for natural numbers: the value of a number in a text is an int.
const maxDigits = 13

// token returns the token at an offset, and the offset after it.
func (s *source) token(at int) (api.Token, int, api.Errno) {
	end := at + 1
	switch s.classes[s.text[at]] {
	case letter:
		return s.name(at)
	case digit:
		return s.number(at)
	case quote:
		return s.quoted(at)
	case exclamation:
		if !s.is(end, equals) {
			return api.Token{}, 0, api.ErrChar
		}
		fallthrough
	case order, equals:
		if s.is(end, equals) {
			end++
		}
		fallthrough
	case symbol:
		return api.Token{Kind: api.TokSymbol, Text: s.text[at:end], At: at}, end, api.OK
	default:
		return api.Token{}, 0, api.ErrChar
	}
}

func (s *source) name(at int) (api.Token, int, api.Errno) {
	end := s.after(at, letter, digit, underscore)
	if end-at > api.MaxName {
		return api.Token{}, 0, api.ErrLimit
	}
	return api.Token{Kind: api.TokName, Text: s.text[at:end], At: at}, end, api.OK
}

func (s *source) number(at int) (api.Token, int, api.Errno) {
	end := s.after(at, digit)
	if end-at > maxDigits || s.is(end, letter, underscore) {
		return api.Token{}, 0, api.ErrNumber
	}
	text := s.text[at:end]
	return api.Token{Kind: api.TokNumber, Text: text, N: value(text), At: at}, end, api.OK
}

// value returns the value of so few digits that an int can hold it.
func value(digits string) int {
	n := 0
	for _, b := range []byte(digits) {
		n = 10*n + int(b-'0')
	}
	return n
}

// quoted returns a string; that it is not closed is told before that it is too long.
func (s *source) quoted(at int) (api.Token, int, api.Errno) {
	from := at + 1
	until := s.before(from, quote, lineFeed)
	if !s.is(until, quote) {
		return api.Token{}, 0, api.ErrEnd
	}
	if until-from > api.MaxText {
		return api.Token{}, 0, api.ErrLimit
	}
	return api.Token{Kind: api.TokString, Text: s.text[from:until], At: at}, until + 1, api.OK
}
