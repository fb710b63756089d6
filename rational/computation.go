package rational

import (
	"observatory/api"
	"observatory/natural"
)

// operation is an operation on natural numbers.
type operation func(a, b api.Nat) (api.Nat, api.Errno)

// computation keeps the first error of a computation, after which nothing more is computed.
type computation struct{ err api.Errno }

func (c *computation) require(condition bool, err api.Errno) {
	if c.err == api.OK && !condition {
		c.err = err
	}
}

func (c *computation) do(operate operation, a, b api.Nat) api.Nat {
	if c.err != api.OK {
		return ""
	}
	result, err := operate(a, b)
	c.err = err
	return result
}

func (c *computation) result(a api.Rat) (api.Rat, api.Errno) {
	if c.err != api.OK {
		return api.Rat{}, c.err
	}
	return a, api.OK
}

// apply returns what an operation of this computation makes of two valid numbers.
func (c *computation) apply(operate func(a, b api.Rat) api.Rat, a, b api.Rat) (api.Rat, api.Errno) {
	c.require(Valid(a) && Valid(b), api.ErrArg)
	return c.result(operate(a, b))
}

// reduced returns a quotient in lowest terms.
func (c *computation) reduced(neg bool, num, den api.Nat) api.Rat {
	divisor := c.do(natural.Gcd, num, den)
	divided := func(n api.Nat) api.Nat { return c.do(exact, n, divisor) }
	return api.Rat{Neg: neg && num != "0", Num: divided(num), Den: divided(den)}
}

// exact returns a quotient that has no remainder.
func exact(a, b api.Nat) (api.Nat, api.Errno) {
	quotient, _, err := natural.Div(a, b)
	return quotient, err
}

// sum adds terms of the same sign; of terms of opposite signs, it takes the lesser from the greater, whose sign remains.
func (c *computation) sum(a, b api.Rat) api.Rat {
	left, right := c.do(natural.Mul, a.Num, b.Den), c.do(natural.Mul, b.Num, a.Den)
	den := c.do(natural.Mul, a.Den, b.Den)
	signed := func(neg bool, operate operation, first, second api.Nat) api.Rat {
		return c.reduced(neg, c.do(operate, first, second), den)
	}
	switch {
	case a.Neg == b.Neg:
		return signed(a.Neg, natural.Add, left, right)
	case natural.Compare(left, right) < 0:
		return signed(b.Neg, natural.Sub, right, left)
	default:
		return signed(a.Neg, natural.Sub, left, right)
	}
}

func (c *computation) difference(a, b api.Rat) api.Rat {
	b.Neg = !b.Neg
	return c.sum(a, b)
}

func (c *computation) product(a, b api.Rat) api.Rat {
	num, den := c.do(natural.Mul, a.Num, b.Num), c.do(natural.Mul, a.Den, b.Den)
	return c.reduced(a.Neg != b.Neg, num, den)
}

func (c *computation) quotient(a, b api.Rat) api.Rat {
	c.require(b.Num != "0", api.ErrZero)
	b.Num, b.Den = b.Den, b.Num
	return c.product(a, b)
}
