// Package digest computes digests of texts: see shared/doc/01-digest.md.
package digest

import (
	"strconv"
	"strings"
)

const (
	blockSize    = 8
	initialState = 1442695040888963407
	firstFactor  = 14029467366897019727
	secondFactor = 11400714785074694791
	digits       = "0123456789abcdef"
	digestSize   = 16
	longestChain = 1000
)

// block is eight bytes of a text.
type block [blockSize]byte

// number returns the number of a block, its first byte being the most significant one.
func (b block) number() uint64 {
	n := uint64(0)
	for _, c := range b {
		n = n<<8 | uint64(c)
	}
	return n
}

// blocks is a text that is cut into blocks.
type blocks string

// count includes a last block that has at least one of the bytes 0 behind the text.
func (t blocks) count() int {
	return len(t)/blockSize + 1
}

// at returns a block; the bytes that the text does not fill stay 0.
func (t blocks) at(i int) block {
	var b block
	copy(b[:], t[i*blockSize:])
	return b
}

// mix is a bijection: each shift is undone by shifts, and each odd factor has an inverse modulo 2^64.
func mix(x uint64) uint64 {
	x ^= x >> 31
	x *= firstFactor
	x ^= x >> 27
	x *= secondFactor
	return x ^ x>>33
}

// hexadecimal returns all sixteen digits of a number, the most significant one first.
func hexadecimal(x uint64) string {
	var text [digestSize]byte
	for i := range digestSize {
		text[digestSize-1-i] = digits[x&15]
		x >>= 4
	}
	return string(text[:])
}

// Sum returns the digest of a text.
func Sum(text string) string {
	cut := blocks(text)
	take := cut.at
	state := initialState ^ uint64(len(text))
	for i := range cut.count() {
		state = mix(state ^ take(i).number())
	}
	return hexadecimal(state)
}

// joined returns the joined text of a list: the lengths keep different lists apart.
func joined(l []string) string {
	var b strings.Builder
	for _, element := range l {
		b.WriteString(strconv.Itoa(len(element)))
		b.WriteByte(':')
		b.WriteString(element)
	}
	return b.String()
}

// List returns the digest of the joined text of a list.
func List(l []string) string {
	return Sum(joined(l))
}

// Chain applies Sum n times, at most 1000 times.
func Chain(text string, n int) string {
	for range min(n, longestChain) {
		text = Sum(text)
	}
	return text
}

// Is reports whether a text is a digest.
func Is(text string) bool {
	if len(text) != digestSize {
		return false
	}
	for i := range digestSize {
		if strings.IndexByte(digits, text[i]) < 0 {
			return false
		}
	}
	return true
}
