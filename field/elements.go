package field

import "observatory/api"

// elements reports whether all numbers are elements of the field.
func elements(numbers ...int) bool {
	for _, n := range numbers {
		if n < 0 || n >= api.Prime {
			return false
		}
	}
	return true
}

func sum(a, b int) int { return (a + b) % api.Prime }

// difference adds Prime because the remainder of a negative number is negative.
func difference(a, b int) int { return (a - b + api.Prime) % api.Prime }

// product does not overflow: the product of two numbers of 31 bits has 62 bits at most.
func product(a, b int) int { return a * b % api.Prime }

// inverse returns the power with the exponent Prime - 2: for a number other than 0, the one with Prime - 1 is 1.
func inverse(a int) int {
	power := 1
	for exponent := api.Prime - 2; exponent > 0; exponent /= 2 {
		if exponent%2 == 1 {
			power = product(power, a)
		}
		a = product(a, a)
	}
	return power
}
