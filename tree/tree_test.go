package tree_test

import (
	"slices"
	"strconv"
	"strings"
	"testing"

	"observatory/api"
	"observatory/digest"
	"observatory/tree"
)

// numbered returns the digests of n elements, whose texts are 0, 1, and so on.
func numbered(n int) []string {
	var l []string
	for i := range n {
		l = append(l, tree.Leaf(strconv.Itoa(i)))
	}
	return l
}

func node(first, others string) string {
	return digest.List([]string{"node", first, others})
}

func rootOf(t *testing.T, l []string) string {
	t.Helper()
	root, err := tree.Root(l)
	if err != api.OK {
		t.Fatalf("the root of %d elements: error %d", len(l), err)
	}
	return root
}

func pathOf(t *testing.T, l []string, i int) []string {
	t.Helper()
	path, err := tree.Path(l, i)
	if err != api.OK {
		t.Fatalf("the path of %d of %d: error %d", i, len(l), err)
	}
	return path
}

func linkOf(t *testing.T, l []string, m int) []string {
	t.Helper()
	link, err := tree.Link(l, m)
	if err != api.OK {
		t.Fatalf("the link from %d of %d: error %d", m, len(l), err)
	}
	return link
}

// rootsOf returns the roots of parts of a list, which are written as 0-2 for its first two elements.
func rootsOf(t *testing.T, l []string, parts string) []string {
	t.Helper()
	var roots []string
	for _, part := range strings.Fields(parts) {
		a, b, _ := strings.Cut(part, "-")
		from, _ := strconv.Atoi(a)
		to, _ := strconv.Atoi(b)
		roots = append(roots, rootOf(t, l[from:to]))
	}
	return roots
}

// noDigests are texts that have almost the form of a digest.
func noDigests() []string {
	return []string{"", "x", "0123456789abcde", "0123456789abcdef0", "0123456789abcdeF", "0123456789abcdeg", "0123456789abcde ", "0123456789abcd\xc3\xbc", "-123456789abcdef"}
}

// The digests in the tables of these tests, and the parts of paths and links, were computed
// by a second program that was written in another language, from the chapter's words.

// P2.1, B1
func TestLeafOfKnownTexts(t *testing.T) {
	for _, test := range []struct{ text, want string }{
		{"", "a1e3602056bb626c"},
		{"a", "4f5bd28ca29cbb4b"},
		{"b", "fe30b366580bb81a"},
		{"c", "d66c4e702af9f60d"},
		{"leaf", "5b12723647df91d1"},
		{"x0", "1a484ea3627ffce6"},
		{"ü", "207a062bee74a13d"},
	} {
		if got := tree.Leaf(test.text); got != test.want || got != digest.List([]string{"leaf", test.text}) {
			t.Errorf("Leaf(%q) = %s, want %s", test.text, got, test.want)
		}
	}
}

// P2.1, B1
func TestRootOfKnownLists(t *testing.T) {
	for _, test := range []struct {
		n    int
		want string
	}{
		{0, "a2e1d95f91c3df50"},
		{1, "759d5c22e4c513fc"},
		{2, "136a367682f6890a"},
		{3, "eed603a8c7176fcf"},
		{4, "aa1b4bf9bc7eb815"},
		{5, "bee26259d1da1d95"},
		{6, "619da638e8f0a1e4"},
		{7, "67a62e62da26be26"},
		{8, "e4ebba98542825ca"},
		{9, "2ac39ce0f0d9d27c"},
		{15, "405b9f2806617c09"},
		{16, "fa0dd9c9f6653fdf"},
		{17, "8d2c59398f4d0060"},
		{31, "e2419fa4b68700db"},
		{32, "1c95dbaedba3dfa6"},
		{33, "9378c37a138d080d"},
		{100, "975a1378253901ff"},
		{255, "3217ad5146402b00"},
		{256, "13ba223e68bffeb5"},
		{257, "8ce5a5324cc8d9ba"},
		{1000, "f79b39e2f638736e"},
		{1024, "14a779a34b13198c"},
		{1025, "f1ae4dfaa1a8128d"},
	} {
		if got, err := tree.Root(numbered(test.n)); got != test.want || err != api.OK {
			t.Errorf("the root of %d elements = %s, %d, want %s", test.n, got, err, test.want)
		}
	}
}

// P2.1, B1 and B3: the examples of the chapter
func TestExamples(t *testing.T) {
	a, b, c := tree.Leaf("a"), tree.Leaf("b"), tree.Leaf("c")
	l := []string{a, b, c}
	for _, test := range []struct {
		l    []string
		want string
	}{
		{nil, digest.List([]string{"empty"})},
		{[]string{}, digest.List([]string{"empty"})},
		{[]string{a}, a},
		{l, node(node(a, b), c)},
	} {
		if got := rootOf(t, test.l); got != test.want {
			t.Errorf("the root of %q = %s, want %s", test.l, got, test.want)
		}
	}
	for _, test := range []struct {
		name      string
		got, want []string
	}{
		{"Path of 2", pathOf(t, l, 2), []string{node(a, b)}},
		{"Path of 0", pathOf(t, l, 0), []string{b, c}},
		{"Link of 2", linkOf(t, l, 2), []string{c}},
		{"Link of 1", linkOf(t, l, 1), []string{b, c}},
	} {
		if !slices.Equal(test.got, test.want) {
			t.Errorf("%s = %q, want %q", test.name, test.got, test.want)
		}
	}
	if path, err := tree.Path(l, 3); len(path) != 0 || err != api.ErrArg {
		t.Errorf("Path of 3 = %q, %d", path, err)
	}
	if root, err := tree.Root([]string{"x"}); root != "" || err != api.ErrArg {
		t.Errorf("the root of x = %q, %d", root, err)
	}
}

// knownPaths lists the parts of the paths of all elements of a list of n.
func knownPaths() map[int][]string {
	return map[int][]string{
		1: {""},
		2: {"1-2", "0-1"},
		3: {"1-2 2-3", "0-1 2-3", "0-2"},
		4: {"1-2 2-4", "0-1 2-4", "3-4 0-2", "2-3 0-2"},
		5: {"1-2 2-4 4-5", "0-1 2-4 4-5", "3-4 0-2 4-5", "2-3 0-2 4-5", "0-4"},
		6: {"1-2 2-4 4-6", "0-1 2-4 4-6", "3-4 0-2 4-6", "2-3 0-2 4-6", "5-6 0-4", "4-5 0-4"},
		7: {"1-2 2-4 4-7", "0-1 2-4 4-7", "3-4 0-2 4-7", "2-3 0-2 4-7", "5-6 6-7 0-4", "4-5 6-7 0-4", "4-6 0-4"},
		8: {"1-2 2-4 4-8", "0-1 2-4 4-8", "3-4 0-2 4-8", "2-3 0-2 4-8", "5-6 6-8 0-4", "4-5 6-8 0-4", "7-8 4-6 0-4", "6-7 4-6 0-4"},
		9: {"1-2 2-4 4-8 8-9", "0-1 2-4 4-8 8-9", "3-4 0-2 4-8 8-9", "2-3 0-2 4-8 8-9", "5-6 6-8 0-4 8-9", "4-5 6-8 0-4 8-9",
			"7-8 4-6 0-4 8-9", "6-7 4-6 0-4 8-9", "0-8"},
		11: {"1-2 2-4 4-8 8-11", "0-1 2-4 4-8 8-11", "3-4 0-2 4-8 8-11", "2-3 0-2 4-8 8-11", "5-6 6-8 0-4 8-11", "4-5 6-8 0-4 8-11",
			"7-8 4-6 0-4 8-11", "6-7 4-6 0-4 8-11", "9-10 10-11 0-8", "8-9 10-11 0-8", "8-10 0-8"},
	}
}

// knownLinks lists the parts of the links from the first m elements, m being from 0 to n, of a list of n.
func knownLinks() map[int][]string {
	return map[int][]string{
		0: {""},
		1: {"", ""},
		2: {"", "1-2", ""},
		3: {"", "1-2 2-3", "2-3", ""},
		4: {"", "1-2 2-4", "2-4", "2-3 3-4 0-2", ""},
		5: {"", "1-2 2-4 4-5", "2-4 4-5", "2-3 3-4 0-2 4-5", "4-5", ""},
		6: {"", "1-2 2-4 4-6", "2-4 4-6", "2-3 3-4 0-2 4-6", "4-6", "4-5 5-6 0-4", ""},
		7: {"", "1-2 2-4 4-7", "2-4 4-7", "2-3 3-4 0-2 4-7", "4-7", "4-5 5-6 6-7 0-4", "4-6 6-7 0-4", ""},
		8: {"", "1-2 2-4 4-8", "2-4 4-8", "2-3 3-4 0-2 4-8", "4-8", "4-5 5-6 6-8 0-4", "4-6 6-8 0-4", "6-7 7-8 4-6 0-4", ""},
		9: {"", "1-2 2-4 4-8 8-9", "2-4 4-8 8-9", "2-3 3-4 0-2 4-8 8-9", "4-8 8-9", "4-5 5-6 6-8 0-4 8-9", "4-6 6-8 0-4 8-9",
			"6-7 7-8 4-6 0-4 8-9", "8-9", ""},
		11: {"", "1-2 2-4 4-8 8-11", "2-4 4-8 8-11", "2-3 3-4 0-2 4-8 8-11", "4-8 8-11", "4-5 5-6 6-8 0-4 8-11", "4-6 6-8 0-4 8-11",
			"6-7 7-8 4-6 0-4 8-11", "8-11", "8-9 9-10 10-11 0-8", "8-10 10-11 0-8", ""},
	}
}

// P2.1, B1
func TestPathsOfKnownLists(t *testing.T) {
	for n, paths := range knownPaths() {
		l := numbered(n)
		for i, parts := range paths {
			if got := pathOf(t, l, i); !slices.Equal(got, rootsOf(t, l, parts)) {
				t.Errorf("the path of %d of %d = %q, want the roots of %s", i, n, got, parts)
			}
		}
	}
}

// P2.1, B3: among them the root of a part that is reached only through first parts, which is left out
func TestLinksOfKnownLists(t *testing.T) {
	for n, links := range knownLinks() {
		l := numbered(n)
		for m, parts := range links {
			if got := linkOf(t, l, m); !slices.Equal(got, rootsOf(t, l, parts)) {
				t.Errorf("the link from %d of %d = %q, want the roots of %s", m, n, got, parts)
			}
		}
	}
}

// P2.1, B1 and B3; P1 of the document: with an error, the other result is its zero value
func TestListsWithTextsThatAreNoDigests(t *testing.T) {
	for _, wrong := range noDigests() {
		for n := range 6 {
			for place := range n {
				l := numbered(n)
				l[place] = wrong
				if root, err := tree.Root(l); root != "" || err != api.ErrArg {
					t.Errorf("%q at %d of %d: Root = %q, %d", wrong, place, n, root, err)
				}
				for i := -1; i <= n+1; i++ {
					if path, err := tree.Path(l, i); len(path) != 0 || err != api.ErrArg {
						t.Errorf("%q at %d of %d: Path of %d = %q, %d", wrong, place, n, i, path, err)
					}
					if link, err := tree.Link(l, i); len(link) != 0 || err != api.ErrArg {
						t.Errorf("%q at %d of %d: Link of %d = %q, %d", wrong, place, n, i, link, err)
					}
				}
			}
		}
	}
}

const (
	greatest = 1<<63 - 1
	least    = -1 << 63
)

// P2.1, B1 and B3; P1 of the document
func TestNumbersOutsideOfLists(t *testing.T) {
	for n := range 10 {
		l := numbered(n)
		for _, i := range []int{least, -n - 1, -2, -1, n, n + 1, 2*n + 1, 1000000, greatest} {
			if path, err := tree.Path(l, i); len(path) != 0 || err != api.ErrArg {
				t.Errorf("Path of %d of %d = %q, %d", i, n, path, err)
			}
			if link, err := tree.Link(l, i); i != n && (len(link) != 0 || err != api.ErrArg) {
				t.Errorf("Link of %d of %d = %q, %d", i, n, link, err)
			}
		}
	}
}

// Rules of the document: arguments are left as they are, and results share no memory with them
func TestResultsAreNewMemory(t *testing.T) {
	l := numbered(7)
	kept := slices.Clone(l)
	for i := range 7 {
		path, link := pathOf(t, l, i), linkOf(t, l, i)
		clear(path[:cap(path)])
		clear(link[:cap(link)])
		if !slices.Equal(l, kept) {
			t.Fatalf("the list changed with the proofs of %d", i)
		}
	}
	path, link := pathOf(t, l, 5), linkOf(t, l, 5)
	root, old := rootOf(t, l), rootOf(t, l[:5])
	pathBefore, linkBefore := slices.Clone(path), slices.Clone(link)
	for range 2 {
		if !tree.Check(root, 7, 5, l[5], path) || !tree.Extends(old, 5, root, 7, link) {
			t.Error("a proof is not accepted")
		}
	}
	if !slices.Equal(path, pathBefore) || !slices.Equal(link, linkBefore) {
		t.Error("a proof changed when it was checked")
	}
}

// P3 of the document
func TestEqualArgumentsYieldEqualResults(t *testing.T) {
	for n := range 20 {
		l, again := numbered(n), append(make([]string, 0, 64), numbered(n)...)
		if rootOf(t, l) != rootOf(t, again) {
			t.Errorf("two roots of %d elements", n)
		}
		for i := range n {
			if !slices.Equal(pathOf(t, l, i), pathOf(t, again, i)) || !slices.Equal(linkOf(t, l, i), linkOf(t, again, i)) {
				t.Errorf("two proofs of %d of %d", i, n)
			}
		}
	}
}
