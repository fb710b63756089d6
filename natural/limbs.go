package natural

import (
	"bytes"

	"observatory/api"
)

const (
	base       = 1000000000
	limbDigits = 9
)

// limbs is a number in a base whose square fits in an int, from its lowest limb on. Its highest limb is not 0, so 0 has no limbs.
type limbs []int

func limbsOf(a api.Nat) limbs {
	l := make(limbs, 0, len(a)/limbDigits+1)
	for end := len(a); end > 0; end -= limbDigits {
		limb := 0
		for _, digit := range []byte(a[max(0, end-limbDigits):end]) {
			limb = limb*10 + int(digit-'0')
		}
		l = append(l, limb)
	}
	return l.trimmed()
}

func (a limbs) digits() api.Nat {
	text := make([]byte, limbDigits*len(a))
	for i, limb := range a {
		for j := range limbDigits {
			text[len(text)-1-limbDigits*i-j] = byte('0' + limb%10)
			limb /= 10
		}
	}
	text = bytes.TrimLeft(text, "0")
	if len(text) == 0 {
		return "0"
	}
	return api.Nat(text)
}

func (a limbs) trimmed() limbs {
	n := len(a)
	for n > 0 && a[n-1] == 0 {
		n--
	}
	return a[:n]
}

// carrier returns a function that returns the lowest limb of a sum, and carries the others to the next sum.
func carrier() func(sum int) int {
	carry := 0
	return func(sum int) int {
		sum += carry
		carry = sum / base
		return sum % base
	}
}

// borrower returns a function that subtracts limbs, and borrows what is missing from the next difference.
func borrower() func(a, b int) int {
	borrowed := 0
	return func(a, b int) int {
		difference := base + a - b - borrowed
		borrowed = 1 - difference/base
		return difference % base
	}
}

func (a limbs) plus(b limbs) limbs {
	if len(a) < len(b) {
		a, b = b, a
	}
	carried := carrier()
	sum := make(limbs, len(a)+1)
	for i := range len(b) {
		sum[i] = carried(a[i] + b[i])
	}
	for i := len(b); i < len(a); i++ {
		sum[i] = carried(a[i])
	}
	sum[len(a)] = carried(0)
	return sum.trimmed()
}

// minus subtracts a number that is not greater.
func (a limbs) minus(b limbs) limbs {
	less := borrower()
	difference := make(limbs, len(a))
	for i := range len(b) {
		difference[i] = less(a[i], b[i])
	}
	for i := len(b); i < len(a); i++ {
		difference[i] = less(a[i], 0)
	}
	return difference.trimmed()
}

func (a limbs) times(b limbs) limbs {
	product := make(limbs, len(a)+len(b))
	for i := range a {
		carried := carrier()
		for j := range b {
			product[i+j] = carried(product[i+j] + a[i]*b[j])
		}
		product[i+len(b)] = carried(0)
	}
	return product.trimmed()
}
