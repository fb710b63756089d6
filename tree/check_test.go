package tree_test

import (
	"slices"
	"testing"

	"observatory/digest"
	"observatory/tree"
)

// altered calls a function with each list that differs a little from a proof.
func altered(proof []string, with func(name string, other []string)) {
	stranger := tree.Leaf("stranger")
	for i := range proof {
		with("without an element", slices.Delete(slices.Clone(proof), i, i+1))
		with("an element twice", slices.Insert(slices.Clone(proof), i, proof[i]))
		for _, wrong := range append(noDigests(), stranger, digest.Sum(proof[i])) {
			other := slices.Clone(proof)
			other[i] = wrong
			with("another element", other)
		}
		if i > 0 {
			other := slices.Clone(proof)
			other[i-1], other[i] = other[i], other[i-1]
			with("two elements exchanged", other)
		}
	}
	for i := range len(proof) + 1 {
		with("one more element", slices.Insert(slices.Clone(proof), i, stranger))
		with("one more element, which is empty", slices.Insert(slices.Clone(proof), i, ""))
	}
}

// P2.1, B2; P2.2
func TestPathsProveElements(t *testing.T) {
	for n := 1; n <= 70; n++ {
		l := numbered(n)
		root := rootOf(t, l)
		for i := range n {
			if !tree.Check(root, n, i, l[i], pathOf(t, l, i)) {
				t.Errorf("the path of %d of %d is not accepted", i, n)
			}
		}
	}
}

// P2.1, B2: paths that are too short, too long or have other elements
func TestAlteredPathsAreRefused(t *testing.T) {
	for n := 1; n <= 17; n++ {
		l := numbered(n)
		root := rootOf(t, l)
		for i := range n {
			path := pathOf(t, l, i)
			altered(path, func(name string, other []string) {
				if !slices.Equal(path, other) && tree.Check(root, n, i, l[i], other) {
					t.Errorf("%d of %d: %s: a path is accepted", i, n, name)
				}
			})
		}
	}
}

// P2.1, B2: indices, roots and elements for which a path is not
func TestPathsOfOthersAreRefused(t *testing.T) {
	for n := 1; n <= 17; n++ {
		l := numbered(n)
		root := rootOf(t, l)
		for i := range n {
			path := pathOf(t, l, i)
			for _, other := range []int{least, -n, i - n, i - 1, i + 1, i + n, n, greatest} {
				if tree.Check(root, n, other, l[i], path) {
					t.Errorf("the path of %d of %d is accepted for %d", i, n, other)
				}
			}
			for _, wrong := range append(noDigests(), tree.Leaf("x"), root, digest.Sum(l[i])) {
				if wrong != l[i] && tree.Check(root, n, i, wrong, path) {
					t.Errorf("the path of %d of %d is accepted for the element %q", i, n, wrong)
				}
				if wrong != root && tree.Check(wrong, n, i, l[i], path) {
					t.Errorf("the path of %d of %d is accepted for the root %q", i, n, wrong)
				}
			}
		}
	}
}

// P2.1, B2: an element that is no digest is refused where it is the root as well
func TestElementsThatAreNoDigestsAreRefused(t *testing.T) {
	for _, wrong := range noDigests() {
		if tree.Check(wrong, 1, 0, wrong, nil) {
			t.Errorf("%q is accepted as the only element", wrong)
		}
		if a := tree.Leaf("a"); tree.Check(node(wrong, a), 2, 0, wrong, []string{a}) || tree.Check(node(a, wrong), 2, 0, a, []string{wrong}) || tree.Check(node(a, wrong), 2, 1, wrong, []string{a}) {
			t.Errorf("%q is accepted as one of two elements", wrong)
		}
	}
}

// P2.1, B2: numbers of elements for which there is no element at all
func TestNoElementsAreRefused(t *testing.T) {
	a := tree.Leaf("a")
	for _, n := range []int{least, -1000001, -2, -1, 0} {
		for _, i := range []int{least, n - 1, n, -1, 0, 1, greatest} {
			if tree.Check(a, n, i, a, nil) || tree.Check(rootOf(t, nil), n, i, a, nil) || tree.Check(node(a, a), n, i, a, []string{a}) {
				t.Errorf("the element %d of %d is accepted", i, n)
			}
		}
	}
}

// firstOf returns the root of a list whose element 0 has a path.
func firstOf(leaf string, path []string) string {
	for _, other := range path {
		leaf = node(leaf, other)
	}
	return leaf
}

// P2.1, B2: 1000000 elements are not too many, 1000001 are; the paths would fit
func TestChecksOfTooManyElements(t *testing.T) {
	path := numbered(20)
	leaf := tree.Leaf("leaf")
	root := firstOf(leaf, path)
	for _, test := range []struct {
		n    int
		want bool
	}{{524288, false}, {524289, true}, {999999, true}, {1000000, true}, {1000001, false}, {1048576, false}} {
		if got := tree.Check(root, test.n, 0, leaf, path); got != test.want {
			t.Errorf("%d elements: %v", test.n, got)
		}
	}
	if tree.Check(node(root, leaf), 1000001, 1000000, leaf, []string{root}) || tree.Check(node(root, leaf), 1048577, 1048576, leaf, []string{root}) {
		t.Error("the last of too many elements is accepted")
	}
	long := numbered(63)
	for i := range long {
		if tree.Check(firstOf(leaf, long[:i]), greatest, 0, leaf, long[:i]) || i > 20 && tree.Check(firstOf(leaf, long[:i]), 1<<i, 0, leaf, long[:i]) {
			t.Errorf("%d digests are accepted for too many elements", i)
		}
	}
	if tree.Check(root, greatest, greatest-1, leaf, path) || tree.Check(root, greatest, greatest, leaf, path) {
		t.Error("the last of most elements is accepted")
	}
}

// lists calls a function with all lists of up to so many of some texts.
func lists(texts []string, longest int, with func([]string)) {
	var longer func(l []string)
	longer = func(l []string) {
		with(l)
		if len(l) == longest {
			return
		}
		for _, text := range texts {
			longer(append(slices.Clone(l), text))
		}
	}
	longer(nil)
}

// parts returns the roots of all parts of a list.
func parts(t *testing.T, l []string) []string {
	var roots []string
	for from := range l {
		for to := from + 1; to <= len(l); to++ {
			roots = append(roots, rootOf(t, l[from:to]))
		}
	}
	return roots
}

// P2.3: no path of roots of parts of the list, or of a list with the other element in it, proves this element
func TestNoPathProvesAnotherElement(t *testing.T) {
	for n := 1; n <= 4; n++ {
		l := numbered(n)
		root := rootOf(t, l)
		for i := range n {
			forged := slices.Clone(l)
			forged[i] = tree.Leaf("forged")
			others := append(parts(t, forged), rootOf(t, nil))
			texts := slices.Compact(slices.Sorted(slices.Values(append(parts(t, l), others...))))
			proofs := 0
			lists(texts, 3, func(path []string) {
				for _, other := range append(others, l...) {
					if other != l[i] && tree.Check(root, n, i, other, path) {
						t.Fatalf("%d of %d: another element has a proof", i, n)
					}
				}
				if tree.Check(root, n, i, l[i], path) {
					proofs++
				}
			})
			if proofs != 1 {
				t.Errorf("%d of %d: %d proofs", i, n, proofs)
			}
		}
	}
}

// P2.4: also for elements that are digests of nodes
func TestRootsOfDifferentListsDiffer(t *testing.T) {
	a, b := tree.Leaf("a"), tree.Leaf("b")
	seen := []map[string][]string{{}, {}, {}, {}, {}, {}, {}}
	lists([]string{a, b, node(a, b), rootOf(t, nil)}, 6, func(l []string) {
		root := rootOf(t, l)
		if other, found := seen[len(l)][root]; found {
			t.Fatalf("%q and %q have the root %s", other, l, root)
		}
		seen[len(l)][root] = l
	})
	if len(seen[6]) != 4096 {
		t.Errorf("%d lists of 6", len(seen[6]))
	}
}

// binaryDigits returns how many binary digits a number has.
func binaryDigits(n int) int {
	digits := 0
	for ; n > 0; n /= 2 {
		digits++
	}
	return digits
}

// P2.7
func TestSizesOfProofs(t *testing.T) {
	for n := 1; n <= 130; n++ {
		l := numbered(n)
		for i := range n {
			if size := len(pathOf(t, l, i)); size > binaryDigits(n) {
				t.Errorf("the path of %d of %d has %d elements", i, n, size)
			}
		}
		for m := range n + 1 {
			if size := len(linkOf(t, l, m)); size > binaryDigits(n)+1 {
				t.Errorf("the link from %d of %d has %d elements", m, n, size)
			}
		}
	}
}

// P2.2, P2.5 and P2.7 for the longest list that proofs are of
func TestProofsOfAMillionElements(t *testing.T) {
	const n = 1000000
	l := numbered(n)
	root := rootOf(t, l)
	for _, i := range []int{0, 777777, n - 1} {
		path := pathOf(t, l, i)
		if !tree.Check(root, n, i, l[i], path) || tree.Check(root, n, i^1, l[i], path) || len(path) > 20 {
			t.Errorf("the path of %d: %d elements", i, len(path))
		}
	}
	for _, m := range []int{1, 524288, 777777, n} {
		link := linkOf(t, l, m)
		if !tree.Extends(rootOf(t, l[:m]), m, root, n, link) || len(link) > 21 {
			t.Errorf("the link from %d: %d elements", m, len(link))
		}
	}
}

// P2.1, B1 and B3: lists have no greatest length; P1 of the document: long proofs are refused
func TestListsOfMoreThanAMillionElements(t *testing.T) {
	const n = 1000001
	l := slices.Repeat(numbered(1), n)
	root := rootOf(t, l)
	path, link := pathOf(t, l, n-1), linkOf(t, l, n-1)
	if !slices.Equal(path, rootsOf(t, l, "999936-1000000 999424-999936 983040-999424 917504-983040 786432-917504 524288-786432 0-524288")) {
		t.Errorf("the path of the last of %d has %d elements", n, len(path))
	}
	if len(link) != len(path)+1 || link[0] != rootOf(t, l[999936:n-1]) || link[1] != l[n-1] {
		t.Errorf("the link to the last of %d has %d elements", n, len(link))
	}
	if tree.Check(root, n, n-1, l[n-1], path) || tree.Extends(rootOf(t, l[:n-1]), n-1, root, n, link) {
		t.Error("proofs of too many elements are accepted")
	}
	if tree.Check(l[0], 1, 0, l[0], l) || tree.Extends(l[0], 1, l[0], 1, l) || tree.Extends(l[0], 1, root, 3, l) {
		t.Error("proofs of too many elements are accepted")
	}
}
