package natural

// commonDivisor computes most steps of Euclid's algorithm from the highest limbs of long numbers alone, as Lehmer does.
func (a limbs) commonDivisor(b limbs) limbs {
	if len(a) < len(b) {
		a, b = b, a
	}
	for len(b) > 2 {
		s := stepsOf(a.highest(len(a)), b.highest(len(a)))
		if s.none() {
			_, rest := a.dividedBy(b)
			a, b = b, rest
		} else {
			a, b = a.combined(b, s.a, s.b), a.combined(b, s.c, s.d)
		}
	}
	if len(b) == 0 {
		return a
	}
	_, rest := a.dividedBy(b)
	x, y := b.highest(2), rest.highest(2)
	for y > 0 {
		x, y = y, x%y
	}
	return limbs{x % base, x / base}.trimmed()
}

// highest returns the value of the two highest ones of n limbs, of which those that a number does not have are 0.
func (a limbs) highest(n int) int {
	value := 0
	for i := n - 1; i >= n-2; i-- {
		value *= base
		if i < len(a) {
			value += a[i]
		}
	}
	return value
}

// steps are steps of Euclid's algorithm: from x and y, they lead to a*x + b*y and c*x + d*y.
type steps struct{ a, b, c, d int }

func (s steps) none() bool { return s.b == 0 }

// stepsOf returns the steps that are the same for all numbers with these highest limbs: the quotients of the least and of the greatest of them are equal.
// As x and y are less than the square of the base, a to d stay below twice the base, and their products with limbs fit in an int.
func stepsOf(x, y int) steps {
	s := steps{a: 1, d: 1}
	for y+s.c != 0 && y+s.d != 0 {
		quotient := (x + s.a) / (y + s.c)
		if quotient != (x+s.b)/(y+s.d) {
			break
		}
		s = steps{s.c, s.d, s.a - quotient*s.c, s.b - quotient*s.d}
		x, y = y, x-quotient*y
	}
	return s
}

// combined returns f*a + g*b, which is not negative, and has no more limbs than a.
func (a limbs) combined(b limbs, f, g int) limbs {
	sum := make(limbs, len(a))
	carry := 0
	for i := range a {
		carry += f * a[i]
		if i < len(b) {
			carry += g * b[i]
		}
		sum[i] = (carry%base + base) % base // the carry may be negative
		carry = (carry - sum[i]) / base
	}
	return sum.trimmed()
}
