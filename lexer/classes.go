package lexer

// class is what a byte may be in a token or a gap; the one of bytes that are nothing but errors is 0.
type class int

const (
	stranger class = iota
	blank
	lineFeed
	hash
	letter
	digit
	underscore
	quote
	exclamation
	order
	equals
	symbol
)

// classify returns the classes of all bytes.
func classify() [256]class {
	var classes [256]class
	mark := func(c class, members string) {
		for _, b := range []byte(members) {
			classes[b] = c
		}
	}
	mark(blank, " \t")
	mark(lineFeed, "\n")
	mark(hash, "#")
	mark(letter, "ABCDEFGHIJKLMNOPQRSTUVWXYZabcdefghijklmnopqrstuvwxyz")
	mark(digit, "0123456789")
	mark(underscore, "_")
	mark(quote, `"`)
	mark(exclamation, "!")
	mark(order, "<>")
	mark(equals, "=")
	mark(symbol, ";,.:()[]{}+-*/")
	return classes
}
