package tree_test

import (
	"slices"
	"testing"

	"observatory/digest"
	"observatory/tree"
)

// P2.1, B4; P2.5
func TestLinksProveThatListsGrew(t *testing.T) {
	for n := range 71 {
		l := numbered(n)
		root := rootOf(t, l)
		for m := range n + 1 {
			if !tree.Extends(rootOf(t, l[:m]), m, root, n, linkOf(t, l, m)) {
				t.Errorf("the link from %d of %d is not accepted", m, n)
			}
		}
	}
}

// P2.1, B4: links that are too short, too long or have other elements
func TestAlteredLinksAreRefused(t *testing.T) {
	for n := range 18 {
		l := numbered(n)
		root := rootOf(t, l)
		for m := range n + 1 {
			link, old := linkOf(t, l, m), rootOf(t, l[:m])
			altered(link, func(name string, other []string) {
				if !slices.Equal(link, other) && tree.Extends(old, m, root, n, other) {
					t.Errorf("%d of %d: %s: a link is accepted", m, n, name)
				}
			})
			for _, extra := range []string{old, root} {
				if tree.Extends(old, m, root, n, append([]string{extra}, link...)) || tree.Extends(old, m, root, n, append(slices.Clone(link), extra)) {
					t.Errorf("%d of %d: a link with one more root is accepted", m, n)
				}
			}
		}
	}
}

// P2.1, B4: roots and numbers for which a link is not
func TestLinksOfOthersAreRefused(t *testing.T) {
	for n := range 18 {
		l := numbered(n)
		root := rootOf(t, l)
		for m := range n + 1 {
			link, old := linkOf(t, l, m), rootOf(t, l[:m])
			for _, wrong := range append(noDigests(), tree.Leaf("x"), root, old, digest.Sum(old), digest.Sum(root)) {
				if wrong != old && tree.Extends(wrong, m, root, n, link) {
					t.Errorf("the link from %d of %d is accepted for the old root %q", m, n, wrong)
				}
				if m > 0 && wrong != root && tree.Extends(old, m, wrong, n, link) {
					t.Errorf("the link from %d of %d is accepted for the root %q", m, n, wrong)
				}
			}
			for other := range n + 2 {
				if other != m && tree.Extends(old, other, root, n, link) {
					t.Errorf("the link from %d of %d is accepted for %d", m, n, other)
				}
			}
			if tree.Extends(root, n, old, m, link) && m < n {
				t.Errorf("the link from %d of %d is accepted the other way round", m, n)
			}
		}
	}
}

// P2.1, B4: the empty list, the whole list, and numbers that are no numbers of elements
func TestExtensionsAtTheEnds(t *testing.T) {
	empty, a, b := rootOf(t, nil), tree.Leaf("a"), tree.Leaf("b")
	for _, test := range []struct {
		name string
		old  string
		m    int
		root string
		n    int
		link []string
		want bool
	}{
		{"none of none", empty, 0, empty, 0, nil, true},
		{"none of none, no slice but an empty one", empty, 0, empty, 0, []string{}, true},
		{"none of none with a link", empty, 0, empty, 0, []string{empty}, false},
		{"none of none, other root", empty, 0, a, 0, nil, false},
		{"none of none, both of something", a, 0, a, 0, nil, false},
		{"none of one", empty, 0, a, 1, nil, true},
		{"none of one with a link", empty, 0, a, 1, []string{a}, false},
		{"none of one, old root of something", a, 0, a, 1, nil, false},
		{"none of one, root that is no digest", empty, 0, "x", 1, nil, false},
		{"none of one, root of the empty list", empty, 0, empty, 1, nil, true},
		{"none of 1000000", empty, 0, a, 1000000, nil, true},
		{"none of 1000001", empty, 0, a, 1000001, nil, false},
		{"none of most", empty, 0, a, greatest, nil, false},
		{"none of less than none", empty, 0, empty, -1, nil, false},
		{"less than none of none", empty, -1, empty, 0, nil, false},
		{"less than none of less than none", empty, -1, empty, -1, nil, false},
		{"least of greatest", empty, least, a, greatest, nil, false},
		{"least of least", a, least, a, least, nil, false},
		{"one of one", a, 1, a, 1, nil, true},
		{"one of one with a link", a, 1, a, 1, []string{a}, false},
		{"one of one, other root", a, 1, b, 1, nil, false},
		{"one of one that is no digest", "x", 1, "x", 1, nil, false},
		{"one of one that is empty", "", 1, "", 1, nil, false},
		{"one of none", a, 1, empty, 0, nil, false},
		{"two of one", a, 2, a, 1, nil, false},
		{"one of two", a, 1, node(a, b), 2, []string{b}, true},
		{"one of two, parts exchanged", a, 1, node(b, a), 2, []string{b}, false},
		{"one of two, link is no digest", a, 1, node(a, "x"), 2, []string{"x"}, false},
		{"one of two, old is no digest", "x", 1, node("x", b), 2, []string{b}, false},
		{"one of two, no link", a, 1, node(a, ""), 2, nil, false},
		{"1000000 of 1000000", a, 1000000, a, 1000000, nil, true},
		{"1000001 of 1000001", a, 1000001, a, 1000001, nil, false},
		{"most of most", a, greatest, a, greatest, nil, false},
		{"first part of 1000000", a, 524288, node(a, b), 1000000, []string{b}, true},
		{"first part of 1000001", a, 524288, node(a, b), 1000001, []string{b}, false},
		{"first part of 1048577", a, 1048576, node(a, b), 1048577, []string{b}, false},
		{"first part of most", a, 1 << 62, node(a, b), greatest, []string{b}, false},
	} {
		if got := tree.Extends(test.old, test.m, test.root, test.n, test.link); got != test.want {
			t.Errorf("%s: %v", test.name, got)
		}
	}
}

// P2.6: no link of roots of parts of the list, or of one that is not as it was, proves that the other list grew into it
func TestNoLinkProvesThatAnotherListGrew(t *testing.T) {
	for n := 1; n <= 4; n++ {
		l := numbered(n)
		root := rootOf(t, l)
		for m := 1; m <= n; m++ {
			for place := range m {
				forged := slices.Clone(l)
				forged[place] = tree.Leaf("forged")
				old := rootOf(t, forged[:m])
				texts := slices.Compact(slices.Sorted(slices.Values(append(parts(t, l), parts(t, forged)...))))
				proofs := 0
				lists(texts, 3, func(link []string) {
					if tree.Extends(old, m, root, n, link) {
						t.Fatalf("%d of %d: another list has a proof", m, n)
					}
					if tree.Extends(rootOf(t, l[:m]), m, root, n, link) {
						proofs++
					}
				})
				if proofs != 1 {
					t.Errorf("%d of %d: %d proofs", m, n, proofs)
				}
			}
		}
	}
}

// P2.6: neither the link of the list nor that of a list with the other beginning is accepted
func TestLinksOfOtherBeginningsAreRefused(t *testing.T) {
	for n := 1; n <= 20; n++ {
		l := numbered(n)
		root := rootOf(t, l)
		for m := 1; m <= n; m++ {
			for place := range m {
				forged := slices.Clone(l)
				forged[place] = tree.Leaf("forged")
				old := rootOf(t, forged[:m])
				if tree.Extends(old, m, root, n, linkOf(t, l, m)) || tree.Extends(old, m, root, n, linkOf(t, forged, m)) {
					t.Errorf("%d of %d: another element %d is accepted", m, n, place)
				}
			}
		}
	}
}
