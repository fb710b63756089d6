package tree

import "observatory/digest"

func emptyRoot() string { return digest.List([]string{"empty"}) }

func node(first, others string) string {
	return digest.List([]string{"node", first, others})
}

// split returns how many of n elements, n being at least 2, the first part has.
func split(n int) int {
	k := 1
	for k<<1 < n {
		k <<= 1
	}
	return k
}

func rootOf(leaves []string) string {
	if len(leaves) == 0 {
		return emptyRoot()
	}
	var part func(from, to int) string
	part = func(from, to int) string {
		if to-from == 1 {
			return leaves[from]
		}
		middle := from + split(to-from)
		return node(part(from, middle), part(middle, to))
	}
	return part(0, len(leaves))
}

func pathOf(leaves []string, i int) []string {
	if len(leaves) == 1 {
		return nil
	}
	k := split(len(leaves))
	if i < k {
		return append(pathOf(leaves[:k], i), rootOf(leaves[k:]))
	}
	return append(pathOf(leaves[k:], i-k), rootOf(leaves[:k]))
}

// linkOf leaves out the root of the first m elements of all: who checks the link has it.
func linkOf(leaves []string, m int, onlyFirstParts bool) []string {
	if m == len(leaves) {
		if onlyFirstParts {
			return nil
		}
		return []string{rootOf(leaves)}
	}
	k := split(len(leaves))
	if m <= k {
		return append(linkOf(leaves[:k], m, onlyFirstParts), rootOf(leaves[k:]))
	}
	return append(linkOf(leaves[k:], m-k, false), rootOf(leaves[:k]))
}
