package lexer

import "slices"

// source is a text with the classes of all bytes.
type source struct {
	text    string
	classes [256]class
}

// is reports whether there is a byte at an offset, and its class is one of those named.
func (s *source) is(at int, named ...class) bool {
	return at < len(s.text) && slices.Contains(named, s.classes[s.text[at]])
}

// after returns the first offset from one on where no byte of the classes named is.
func (s *source) after(at int, named ...class) int {
	for s.is(at, named...) {
		at++
	}
	return at
}

// before returns the first offset from one on where a byte of the classes named is, or the text ends.
func (s *source) before(at int, named ...class) int {
	for at < len(s.text) && !s.is(at, named...) {
		at++
	}
	return at
}

// afterGap returns the first offset from one on where neither a gap nor a part of one is.
func (s *source) afterGap(at int) int {
	for {
		at = s.after(at, blank, lineFeed)
		if !s.is(at, hash) {
			return at
		}
		at = s.before(at, lineFeed)
	}
}
