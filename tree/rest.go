package tree

import "observatory/digest"

type digests []string

func (d digests) valid() bool {
	for _, element := range d {
		if !digest.Is(element) {
			return false
		}
	}
	return true
}

// rest is what is left of a proof. Its last elements are taken first: they are those of the greatest parts.
type rest struct {
	digests
	short bool
}

// take returns the last element that is left. A proof without one is too short for its numbers, which used tells.
func (r *rest) take() string {
	last := len(r.digests) - 1
	if last < 0 {
		r.short = true
		return ""
	}
	element := r.digests[last]
	r.digests = r.digests[:last]
	return element
}

// used reports whether the proof had just the elements that were taken.
func (r *rest) used() bool {
	return !r.short && len(r.digests) == 0
}

// root returns the root of n elements that a path leads to from its element i.
func (r *rest) root(n, i int, leaf string) string {
	if n == 1 {
		return leaf
	}
	k := split(n)
	other := r.take()
	if i < k {
		return node(r.root(k, i, leaf), other)
	}
	return node(other, r.root(n-k, i-k, leaf))
}

// roots returns the roots of the first m elements, m being at least 1, and of all n that a link leads to.
func (r *rest) roots(old string, m, n int) (first, all string) {
	var part func(m, n int, onlyFirstParts bool) (string, string)
	part = func(m, n int, onlyFirstParts bool) (string, string) {
		if m == n && onlyFirstParts {
			return old, old
		}
		other := r.take()
		if m == n {
			return other, other
		}
		k := split(n)
		if m <= k {
			first, all := part(m, k, onlyFirstParts)
			return first, node(all, other)
		}
		first, all := part(m-k, n-k, false)
		return node(other, first), node(other, all)
	}
	return part(m, n, true)
}
