package mount

import (
	"math"
	"slices"

	"observatory/api"
)

// lengths has the least length of a way from each position, from that at one end of the wrap on.
type lengths [2*api.Wrap + 1]int

func (l *lengths) from(at int) int {
	return l[at+api.Wrap]
}

// lengthsLeft returns the least lengths of the ways through all columns, through all but the first one, and so on until none is left.
func lengthsLeft(columns []int) []lengths {
	left := make([]lengths, len(columns)+1)
	for i, column := range slices.Backward(columns) {
		left[i] = lengthsOver(positions(column), &left[i+1])
	}
	return left
}

// lengthsOver returns the least lengths of the ways that go to one of some positions first, behind which the lengths are known.
func lengthsOver(stops []int, behind *lengths) lengths {
	var l lengths
	for i := range l {
		l[i] = math.MaxInt
		for _, to := range stops {
			l[i] = min(l[i], distance(i-api.Wrap, to)+behind.from(to))
		}
	}
	return l
}

// positions returns all positions with a column, in increasing order.
func positions(column int) []int {
	var all []int
	// The positions of a column have one remainder also if they are counted from the end of the wrap.
	least := (column+api.Wrap)%api.Columns - api.Wrap
	for p := least; p <= api.Wrap; p += api.Columns {
		all = append(all, p)
	}
	return all
}

func distance(a, b int) int {
	return max(a, b) - min(a, b)
}

func isPosition(at int) bool {
	return at >= -api.Wrap && at <= api.Wrap
}

func isColumn(column int) bool {
	return column >= 0 && column < api.Columns
}

// areStops reports whether there are such columns, and not too many.
func areStops(columns []int) bool {
	if len(columns) > api.MaxStops {
		return false
	}
	for _, column := range columns {
		if !isColumn(column) {
			return false
		}
	}
	return true
}
