package shares

import (
	"strconv"

	"observatory/api"
	"observatory/tree"
)

func within(n, least, most int) bool { return least <= n && n <= most }

// valid reports whether all shares are valid.
func valid(l ...api.Share) bool {
	for _, s := range l {
		if !within(s.X, 1, api.MaxShares) || !within(s.Y, 0, api.Prime-1) {
			return false
		}
	}
	return true
}

// repeats reports whether two of some valid shares have the same X.
func repeats(l []api.Share) bool {
	var seen [api.MaxShares + 1]bool
	for _, s := range l {
		if seen[s.X] {
			return true
		}
		seen[s.X] = true
	}
	return false
}

// leaf returns the digest of the string of a share.
func leaf(s api.Share) string {
	return tree.Leaf(strconv.Itoa(s.X) + " " + strconv.Itoa(s.Y))
}
