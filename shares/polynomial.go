package shares

import (
	"observatory/api"
	"observatory/field"
)

// coefficients are those of a polynomial, the constant one first.
type coefficients []int

// value has ErrArg if a coefficient is no element of the field.
func (c coefficients) value(x int) (int, api.Errno) { return field.Eval(c, x) }

// points stand for the polynomial through them.
type points [][2]int

// pointsOf returns the points of shares.
func pointsOf(l []api.Share) points {
	p := make(points, len(l))
	for i, s := range l {
		p[i] = [2]int{s.X, s.Y}
	}
	return p
}

// value has no error to return: the points are those of 1 to 16 valid shares with different X.
func (p points) value(x int) int {
	y, _ := field.Interpolate(p, x)
	return y
}
