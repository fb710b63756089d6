package shares_test

import (
	"fmt"
	"math"
	"math/rand"
	"slices"
	"testing"

	"observatory/api"
	"observatory/digest"
	"observatory/shares"
	"observatory/tree"
)

// leavesOf returns the digests of the strings of shares.
func leavesOf(l []api.Share) []string {
	var leaves []string
	for _, s := range l {
		leaves = append(leaves, tree.Leaf(fmt.Sprintf("%d %d", s.X, s.Y)))
	}
	return leaves
}

// treeRoot returns the root of the leaves of shares, valid or not.
func treeRoot(t *testing.T, l []api.Share) string {
	t.Helper()
	root, err := tree.Root(leavesOf(l))
	if err != api.OK {
		t.Fatalf("the root of %v: error %d", l, err)
	}
	return root
}

// pathOf returns the path of one of several shares, valid or not.
func pathOf(t *testing.T, l []api.Share, i int) []string {
	t.Helper()
	path, err := tree.Path(leavesOf(l), i)
	if err != api.OK {
		t.Fatalf("the path of %d of %v: error %d", i, l, err)
	}
	return path
}

// expectRoot checks the commitment to shares, which are left as they are.
func expectRoot(t *testing.T, l []api.Share, want string, wantErr api.Errno) {
	t.Helper()
	before := slices.Clone(l)
	got, err := shares.Root(l)
	if got != want || err != wantErr {
		t.Errorf("Root of %v: %q, error %d; want %q, error %d", before, got, err, want, wantErr)
	}
	if !slices.Equal(l, before) {
		t.Errorf("Root changes %v to %v", before, l)
	}
}

// expectCheck checks whether a share is accepted; the path is left as it is.
func expectCheck(t *testing.T, root string, total int, s api.Share, path []string, want bool) {
	t.Helper()
	before := slices.Clone(path)
	if got := shares.Check(root, total, s, path); got != want {
		t.Errorf("Check of %q, %d, %v, %v: %v; want %v", root, total, s, before, got, want)
	}
	if !slices.Equal(path, before) {
		t.Errorf("Check changes %v to %v", before, path)
	}
}

// P7.1 (G3): roots of 1 to 16 shares, which a second program has computed.
func TestKnownRoots(t *testing.T) {
	for _, c := range []struct {
		l    []api.Share
		root string
	}{
		{inOrder(5), "fa0375386c572c48"}, {[]api.Share{{X: 16, Y: last}}, "df77eeef24a55240"}, {inOrder(12), "beb4610abe896153"},
		{inOrder(12, 17, 22), "8dded7869de510f1"}, {[]api.Share{{X: 3, Y: 22}, {X: 2, Y: 17}, {X: 1, Y: 12}}, "58837c5a17e1cc38"}, {[]api.Share{{X: 3, Y: 22}, {X: 3, Y: 22}}, "38934a4381f8f049"},
		{inOrder(2087084261, 731717596, 1228867306, 1431049744, 1338264910), "28c2aceaaea2a22d"}, {inOrder(9, 15, 23, 33, 45, 59), "7ce29b30ccff0fab"}, {inOrder(countdown(last, 16)...), "5cd74d02517cb31a"},
		{inOrder(123456684, 123030803, 26601666, 1674417198, 445980687, 1640505794, 80790957, 912295899, 2009471527, 2060418837, 42662222, 904162003, 1958449341, 1963293945, 1275974699), "ce4899e59d566bb5"},
		{inOrder(123456684, 123030803, 26601666, 1674417198, 445980687, 1640505794, 80790957, 912295899, 2009471527, 2060418837, 42662222, 904162003, 1958449341, 1963293945, 1275974699, 1934501331), "23e0b4f689d4a116"},
	} {
		expectRoot(t, c.l, c.root, api.OK)
		expectRoot(t, append(c.l, api.Share{})[:len(c.l)], c.root, api.OK)
	}
}

// P7.1 (G3): roots are those of package tree, for each number of shares, in any order and at any places, also at one place twice.
func TestRoots(t *testing.T) {
	random := rand.New(rand.NewSource(11))
	for n := 1; n <= 16; n++ {
		for range 20 {
			l := inOrder(anyList(random, n)...)
			expectRoot(t, l, treeRoot(t, l), api.OK)
			slices.Reverse(l)
			expectRoot(t, l, treeRoot(t, l), api.OK)
			for i := range l {
				l[i].X = 1 + random.Intn(16)
			}
			expectRoot(t, l, treeRoot(t, l), api.OK)
		}
		l := slices.Repeat([]api.Share{{X: 16, Y: last}}, n)
		expectRoot(t, l, treeRoot(t, l), api.OK)
	}
}

// P7.1 (G3), P1: no share, too many, and shares that are not valid, at each place.
func TestRootsOfInvalid(t *testing.T) {
	expectRoot(t, nil, "", api.ErrArg)
	expectRoot(t, []api.Share{}, "", api.ErrArg)
	expectRoot(t, make([]api.Share, 0, 20), "", api.ErrArg)
	for _, n := range []int{17, 18, 32, 1000} {
		expectRoot(t, slices.Repeat([]api.Share{{X: 1, Y: 5}}, n), "", api.ErrArg)
	}
	expectRoot(t, append(inOrder(countdown(last, 16)...), api.Share{X: 16, Y: 5}), "", api.ErrArg)
	for _, wrong := range wrongShares() {
		for n := 1; n <= 17; n++ {
			for place := range n {
				l := inOrder(countdown(last, n)...)
				l[place] = wrong
				expectRoot(t, l, "", api.ErrArg)
			}
		}
	}
}

// P7.7: each share of all numbers need and total, and other Y at its place.
func TestCommitments(t *testing.T) {
	random := rand.New(rand.NewSource(12))
	eachNeed(func(need, total int) {
		l := split(t, anyElement(random), need, total, anyList(random, need-1))
		root, err := shares.Root(l)
		if err != api.OK {
			t.Fatalf("the root of %v: error %d", l, err)
		}
		for i, s := range l {
			path := pathOf(t, l, i)
			expectCheck(t, root, total, s, path, true)
			for _, off := range []int{1, 2, 10, 1 << 30, last, 1 + random.Intn(last)} {
				expectCheck(t, root, total, api.Share{X: s.X, Y: add(t, s.Y, off)}, path, false)
			}
		}
	})
}

// P7.7: all other Y that are near, and those whose strings are prolonged or shortened.
func TestOtherYAreRefused(t *testing.T) {
	l := inOrder(12, 17, 22)
	root := treeRoot(t, l)
	for i, s := range l {
		path := pathOf(t, l, i)
		for y := -30; y < 3000; y++ {
			expectCheck(t, root, 3, api.Share{X: s.X, Y: y}, path, y == s.Y)
		}
	}
}

// P7.1 (G3): a share at another place, and the paths of other shares.
func TestOtherPlacesAreRefused(t *testing.T) {
	for total := 1; total <= 16; total++ {
		l := inOrder(countdown(last, total)...)
		root := treeRoot(t, l)
		for i, s := range l {
			for k := range l {
				path := pathOf(t, l, k)
				expectCheck(t, root, total, s, path, i == k)
				expectCheck(t, root, total, api.Share{X: k + 1, Y: s.Y}, path, i == k)
				expectCheck(t, root, total, api.Share{X: k + 1, Y: s.Y}, pathOf(t, l, i), i == k)
			}
		}
	}
}

// P7.1 (G3): in lists that are not in order, only shares whose place is their X - 1 are accepted.
func TestSharesOutOfOrderAreRefused(t *testing.T) {
	for total := 2; total <= 16; total++ {
		l := inOrder(slices.Repeat([]int{5}, total)...)
		slices.Reverse(l)
		root := treeRoot(t, l)
		for i, s := range l {
			for k := range l {
				expectCheck(t, root, total, s, pathOf(t, l, k), i == k && s.X == i+1)
			}
		}
	}
	l := []api.Share{{X: 2, Y: 5}, {X: 2, Y: 6}, {X: 1, Y: 5}}
	root := treeRoot(t, l)
	expectCheck(t, root, 3, l[0], pathOf(t, l, 0), false)
	expectCheck(t, root, 3, l[1], pathOf(t, l, 1), true)
	expectCheck(t, root, 3, l[2], pathOf(t, l, 2), false)
}

// P7.1 (G3): other numbers of shares are refused, unless paths have the same form in both.
func TestOtherTotals(t *testing.T) {
	for n := 1; n <= 16; n++ {
		l := inOrder(countdown(last, n)...)
		root := treeRoot(t, l)
		for i, s := range l {
			path := pathOf(t, l, i)
			for total := -2; total <= 20; total++ {
				want := total >= s.X && total <= 16 && tree.Check(root, total, i, leavesOf(l)[i], path)
				expectCheck(t, root, total, s, path, want)
			}
		}
		for _, total := range outside() {
			expectCheck(t, root, total, l[0], pathOf(t, l, 0), false)
			expectCheck(t, root, total, l[n-1], pathOf(t, l, n-1), false)
		}
	}
	three := inOrder(12, 17, 22)
	expectCheck(t, treeRoot(t, three), 4, three[0], pathOf(t, three, 0), true)
	expectCheck(t, treeRoot(t, three), 4, three[2], pathOf(t, three, 2), false)
	expectCheck(t, treeRoot(t, three), 2, three[2], pathOf(t, three, 2), false)
}

// P7.1 (G3), P1: 17 shares and more have a root and paths in package tree, but are too many here.
func TestTooManySharesAreRefused(t *testing.T) {
	for _, n := range []int{17, 18, 31, 32, 33, 100} {
		l := inOrder(countdown(last, n)...)
		root := treeRoot(t, l)
		for i, s := range l {
			path := pathOf(t, l, i)
			if !tree.Check(root, n, i, leavesOf(l)[i], path) {
				t.Fatalf("the path of %d of %d", i, n)
			}
			expectCheck(t, root, n, s, path, false)
		}
	}
}

// P7.1 (G3), P1: shares that are not valid are refused although they are committed to; so are those whose X exceeds the number of shares.
func TestInvalidSharesAreRefused(t *testing.T) {
	for _, wrong := range wrongShares() {
		for n := 1; n <= 17; n++ {
			for place := range n {
				l := inOrder(countdown(last, n)...)
				l[place] = wrong
				root, path := treeRoot(t, l), pathOf(t, l, place)
				for _, total := range []int{n, 1, 16, wrong.X} {
					expectCheck(t, root, total, wrong, path, false)
				}
			}
		}
	}
	for total := 1; total <= 15; total++ {
		for x := total + 1; x <= 16; x++ {
			l := slices.Repeat([]api.Share{{X: x, Y: 5}}, total)
			for i, s := range l {
				expectCheck(t, treeRoot(t, l), total, s, pathOf(t, l, i), false)
			}
		}
	}
}

// noDigests are texts that are no digests, some of them made of one.
func noDigests(of string) []string {
	return []string{"", "x", of[:15], of + "0", of + of, " " + of[1:], "g" + of[1:], of[:15] + "G", "A" + of[1:], of[:15] + "\n"}
}

// P7.1 (G3): roots and paths that are no digests, or others.
func TestAlteredRootsAndPathsAreRefused(t *testing.T) {
	for total := 1; total <= 16; total++ {
		l := inOrder(countdown(last, total)...)
		root := treeRoot(t, l)
		for i, s := range l {
			path := pathOf(t, l, i)
			for _, wrong := range append(noDigests(root), digest.Sum(root), leavesOf([]api.Share{{X: 1, Y: 5}})[0]) {
				expectCheck(t, wrong, total, s, path, false)
				expectCheck(t, root, total, s, append(slices.Clone(path), wrong), false)
				expectCheck(t, root, total, s, slices.Insert(slices.Clone(path), 0, wrong), false)
				for k := range path {
					other := slices.Clone(path)
					other[k] = wrong
					expectCheck(t, root, total, s, other, false)
					expectCheck(t, root, total, s, slices.Delete(slices.Clone(path), k, k+1), false)
				}
			}
		}
	}
	leaf := leavesOf(inOrder(12))[0]
	for _, wrong := range noDigests(leaf) {
		expectCheck(t, digest.List([]string{"node", leaf, wrong}), 2, api.Share{X: 1, Y: 12}, []string{wrong}, false)
	}
}

// P7.1 (G3): one share has an empty path, and its leaf as root.
func TestOneShare(t *testing.T) {
	for _, y := range edges() {
		s := api.Share{X: 1, Y: y}
		leaf := leavesOf([]api.Share{s})[0]
		expectRoot(t, []api.Share{s}, leaf, api.OK)
		expectCheck(t, leaf, 1, s, nil, true)
		expectCheck(t, leaf, 1, s, []string{}, true)
		expectCheck(t, leaf, 1, s, []string{leaf}, false)
		for _, total := range []int{math.MinInt, -1, 0, 2, 16, 17, math.MaxInt} {
			expectCheck(t, leaf, total, s, nil, false)
		}
	}
}

// P3: a call leaves nothing to a later one.
func TestIndependenceOfCommitments(t *testing.T) {
	l, others := inOrder(12, 17, 22), inOrder(12, 17, 23)
	for range 3 {
		expectRoot(t, l, "8dded7869de510f1", api.OK)
		expectRoot(t, others, treeRoot(t, others), api.OK)
		expectRoot(t, nil, "", api.ErrArg)
		expectCheck(t, "8dded7869de510f1", 3, l[2], []string{"16723edef8484da8"}, true)
		expectCheck(t, "8dded7869de510f1", 3, others[2], []string{"16723edef8484da8"}, false)
		expectCheck(t, "8dded7869de510f1", 3, l[0], []string{"d5719e404c9bcd62", "671241adad4948a7"}, true)
	}
}
