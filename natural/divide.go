package natural

// dividedBy returns the quotient and the remainder. The divisor is not 0.
func (a limbs) dividedBy(b limbs) (quotient, rest limbs) {
	if len(b) == 1 {
		quotient, last := a.dividedByLimb(b[0])
		return quotient, limbs{last}.trimmed()
	}
	if len(a) < len(b) {
		return nil, a
	}
	// With a highest limb of at least base/2, the quotient of a limb is estimated from the highest limbs.
	scale := base / (b[len(b)-1] + 1)
	left, divisor := a.scaled(scale), b.scaled(scale).trimmed()
	quotient = make(limbs, len(a)-len(b)+1)
	for i := len(quotient) - 1; i >= 0; i-- {
		part := left[i : i+len(b)+1]
		quotient[i] = divisor.estimate(part)
		if part.subtract(divisor, quotient[i]) {
			quotient[i]--
			part.addBack(divisor)
		}
	}
	rest, _ = left.trimmed().dividedByLimb(scale)
	return quotient.trimmed(), rest
}

func (a limbs) dividedByLimb(b int) (quotient limbs, rest int) {
	quotient = make(limbs, len(a))
	for i := len(a) - 1; i >= 0; i-- {
		rest = rest*base + a[i]
		quotient[i], rest = rest/b, rest%b
	}
	return quotient.trimmed(), rest
}

// scaled returns a multiple in one limb more than the number has.
func (a limbs) scaled(factor int) limbs {
	carried := carrier()
	multiple := make(limbs, len(a)+1)
	for i, limb := range a {
		multiple[i] = carried(factor * limb)
	}
	multiple[len(a)] = carried(0)
	return multiple
}

// estimate returns the quotient of a part and the divisor, or one more. The part has one limb more than the divisor, and is less than base times it.
func (b limbs) estimate(part limbs) int {
	n := len(b)
	high := part[n]*base + part[n-1]
	quotient, rest := high/b[n-1], high%b[n-1]
	if quotient*b[n-2] > rest*base+part[n-2] {
		quotient--
	}
	return quotient
}

// subtract takes a multiple of the divisor from a part of the dividend, and reports whether this was too much.
func (part limbs) subtract(divisor limbs, factor int) bool {
	carried, less := carrier(), borrower()
	for i, limb := range divisor {
		part[i] = less(part[i], carried(factor*limb))
	}
	top := len(divisor)
	part[top] = less(part[top], carried(0))
	return less(0, 0) > 0
}

func (part limbs) addBack(divisor limbs) {
	carried := carrier()
	for i, limb := range divisor {
		part[i] = carried(part[i] + limb)
	}
	top := len(divisor)
	part[top] = carried(part[top])
}
