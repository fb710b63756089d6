package field

// pairs reports whether all points consist of elements of the field.
func pairs(points [][2]int) bool {
	for _, point := range points {
		for _, n := range point {
			if !elements(n) {
				return false
			}
		}
	}
	return true
}

// repeats reports whether two points have the same X.
func repeats(points [][2]int) bool {
	for i, point := range points {
		for _, other := range points[:i] {
			if point[0] == other[0] {
				return true
			}
		}
	}
	return false
}

// coefficients returns the coefficients of the polynomial through some points in Newton's form: the one with the index i belongs to the product of x - X over the first i points.
func coefficients(points [][2]int) []int {
	list := make([]int, len(points))
	for i, point := range points {
		list[i] = point[1]
	}
	// raise turns the differences over span + 1 points in a row into those over span + 2. It begins at the end, because each needs the one before it as it was.
	raise := func(span int) {
		for i := len(list) - 1; i > span; i-- {
			width := difference(points[i][0], points[i-span-1][0])
			list[i] = product(difference(list[i], list[i-1]), inverse(width))
		}
	}
	for span := range len(points) {
		raise(span)
	}
	return list
}

// through returns the value at x of the polynomial through some points.
func through(points [][2]int, x int) int {
	value := 0
	list := coefficients(points)
	for i := len(list) - 1; i >= 0; i-- {
		value = sum(product(value, difference(x, points[i][0])), list[i])
	}
	return value
}
