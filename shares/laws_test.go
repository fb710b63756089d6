package shares_test

import (
	"math/rand"
	"slices"
	"testing"

	"observatory/api"
	"observatory/field"
	"observatory/shares"
)

// split returns the shares of a secret.
func split(t *testing.T, secret, need, total int, random []int) []api.Share {
	t.Helper()
	l, err := shares.Split(secret, need, total, random)
	if err != api.OK {
		t.Fatalf("Split of %d, %d, %d, %v: error %d", secret, need, total, random, err)
	}
	return l
}

func add(t *testing.T, a, b int) int {
	t.Helper()
	n, err := field.Add(a, b)
	if err != api.OK {
		t.Fatalf("Add of %d and %d: error %d", a, b, err)
	}
	return n
}

// anyElement returns an element that is often one at the ends of the field.
func anyElement(random *rand.Rand) int {
	if random.Intn(3) == 0 {
		return edges()[random.Intn(len(edges()))]
	}
	return random.Intn(api.Prime)
}

func anyList(random *rand.Rand, n int) []int {
	list := make([]int, n)
	for i := range list {
		list[i] = anyElement(random)
	}
	return list
}

// anyOf returns so many of some shares, in any order.
func anyOf(random *rand.Rand, l []api.Share, n int) []api.Share {
	var chosen []api.Share
	for _, i := range random.Perm(len(l))[:n] {
		chosen = append(chosen, l[i])
	}
	return chosen
}

// eachNeed calls a function with all numbers need and total.
func eachNeed(with func(need, total int)) {
	for total := 1; total <= 16; total++ {
		for need := 1; need <= total; need++ {
			with(need, total)
		}
	}
}

// P7.2: any shares, from as many as are needed to all, for all numbers.
func TestRecovery(t *testing.T) {
	random := rand.New(rand.NewSource(1))
	eachNeed(func(need, total int) {
		for _, secret := range append(edges(), anyElement(random)) {
			for _, list := range [][]int{anyList(random, need-1), make([]int, need-1), slices.Repeat([]int{last}, need-1)} {
				l := split(t, secret, need, total, list)
				for n := need; n <= total; n++ {
					expectJoin(t, anyOf(random, l, n), need, secret, api.OK)
				}
			}
		}
	})
}

// choices calls a function with all lists of different shares, in all orders.
func choices(l []api.Share, with func([]api.Share)) {
	var longer func(chosen []api.Share)
	longer = func(chosen []api.Share) {
		with(chosen)
		for _, s := range l {
			if !slices.Contains(chosen, s) {
				longer(append(slices.Clip(chosen), s))
			}
		}
	}
	longer(nil)
}

// P7.2: all choices of five shares, in all orders; too few of them are no quorum.
func TestRecoveryFromAllChoices(t *testing.T) {
	random := rand.New(rand.NewSource(2))
	for need := 1; need <= 5; need++ {
		secret := anyElement(random)
		choices(split(t, secret, need, 5, anyList(random, need-1)), func(l []api.Share) {
			if len(l) < need {
				expectJoin(t, l, need, 0, api.ErrQuorum)
			} else {
				expectJoin(t, l, need, secret, api.OK)
			}
		})
	}
}

// coefficientsThrough returns the coefficients of the polynomial through some points, found in Lagrange's form.
func coefficientsThrough(t *testing.T, points [][2]int) []int {
	t.Helper()
	result := make([]int, len(points))
	for i, point := range points {
		part, below := []int{point[1]}, 1
		for k, other := range points {
			if k == i {
				continue
			}
			// The part times x - X of the other point.
			longer := append([]int{0}, part...)
			for exponent, c := range part {
				longer[exponent] = (longer[exponent] + c*(api.Prime-other[0])) % api.Prime
			}
			part, below = longer, below*(api.Prime+point[0]-other[0])%api.Prime
		}
		inverse, err := field.Inverse(below)
		if err != api.OK {
			t.Fatalf("error %d", err)
		}
		for exponent, c := range part {
			result[exponent] = (result[exponent] + c*inverse) % api.Prime
		}
	}
	return result
}

// listFor returns the list of elements with which a secret has some shares; there are fewer than need, and the others are chosen at other places.
func listFor(t *testing.T, random *rand.Rand, secret, need int, l []api.Share) []int {
	t.Helper()
	points := [][2]int{{0, secret}}
	var taken [17]bool
	for _, s := range l {
		points = append(points, [2]int{s.X, s.Y})
		taken[s.X] = true
	}
	for x := 1; len(points) < need; x++ {
		if !taken[x] {
			points = append(points, [2]int{x, anyElement(random)})
		}
	}
	return coefficientsThrough(t, points)[1:]
}

// P7.3: any fewer shares than are needed are those of each other secret as well.
func TestSecrecy(t *testing.T) {
	random := rand.New(rand.NewSource(3))
	eachNeed(func(need, total int) {
		l := split(t, anyElement(random), need, total, anyList(random, need-1))
		for n := range need {
			few := anyOf(random, l, n)
			for _, other := range append(edges(), anyElement(random)) {
				others := split(t, other, need, total, listFor(t, random, other, need, few))
				for _, s := range few {
					if others[s.X-1] != s {
						t.Errorf("need %d of %d: %v is no share of %d: %v", need, total, s, other, others)
					}
				}
				expectJoin(t, others, need, other, api.OK)
			}
		}
	})
}

// P7.4: for any values at one place less than are needed, and each secret, there is a list with these shares, and only this one: it comes back from the shares that it leads to.
func TestJustOneList(t *testing.T) {
	random := rand.New(rand.NewSource(4))
	eachNeed(func(need, total int) {
		places := anyOf(random, inOrder(anyList(random, total)...), need-1)
		for _, secret := range edges() {
			list := listFor(t, random, secret, need, places)
			l := split(t, secret, need, total, list)
			for _, s := range places {
				if l[s.X-1] != s {
					t.Errorf("need %d of %d: %v is no share of %d: %v", need, total, s, secret, l)
				}
			}
			own := anyList(random, need-1)
			l = split(t, secret, need, total, own)
			if back := listFor(t, random, secret, need, anyOf(random, l, need-1)); !slices.Equal(back, own) {
				t.Errorf("%v and %v lead to the same shares", back, own)
			}
		}
	})
}

// P7.4: two lists that differ in one element, or in each, at any places.
func TestDifferentLists(t *testing.T) {
	random := rand.New(rand.NewSource(5))
	eachNeed(func(need, total int) {
		list := anyList(random, need-1)
		l := split(t, 7, need, total, list)
		differ := func(other []int) {
			t.Helper()
			others := split(t, 7, need, total, other)
			for range 5 {
				places := anyOf(random, l, need-1)
				if !slices.ContainsFunc(places, func(s api.Share) bool { return others[s.X-1] != s }) {
					t.Errorf("%v and %v lead to the same shares %v", list, other, places)
				}
			}
		}
		all := slices.Clone(list)
		for i := range list {
			for _, off := range []int{1, 1 << 30, last} {
				other := slices.Clone(list)
				other[i] = add(t, other[i], off)
				differ(other)
			}
			all[i] = add(t, all[i], 1+random.Intn(last))
			differ(all)
		}
	})
}

// P7.4: all lists of a few elements, at all places.
func TestAllSmallLists(t *testing.T) {
	few := []int{0, 1, 2, last}
	for need := 2; need <= 4; need++ {
		seen := map[[4]api.Share]bool{}
		var longer func(list []int)
		longer = func(list []int) {
			if len(list) < need-1 {
				for _, element := range few {
					longer(append(slices.Clip(list), element))
				}
				return
			}
			choices(split(t, last, need, 4, list), func(l []api.Share) {
				if len(l) == need-1 {
					var at [4]api.Share
					copy(at[:], l)
					if seen[at] {
						t.Errorf("two lists lead to the shares %v", l)
					}
					seen[at] = true
				}
			})
		}
		longer(nil)
	}
}

// P7.5: another Y, at each place of all shares, in any order.
func TestWrongShares(t *testing.T) {
	random := rand.New(rand.NewSource(6))
	eachNeed(func(need, total int) {
		secret := anyElement(random)
		l := split(t, secret, need, total, anyList(random, need-1))
		for n := need + 1; n <= total; n++ {
			some := anyOf(random, l, n)
			for place := range some {
				for _, off := range []int{1, 2, 1 << 30, last, 1 + random.Intn(last)} {
					wrong := slices.Clone(some)
					wrong[place].Y = add(t, wrong[place].Y, off)
					expectJoin(t, wrong, need, 0, api.ErrProof)
				}
			}
			expectJoin(t, some, need, secret, api.OK)
		}
	})
}

// P7.5: all other Y that are near, of each of three shares.
func TestNearWrongShares(t *testing.T) {
	for place, y := range []int{12, 17, 22} {
		for other := range 300 {
			if other != y {
				l := inOrder(12, 17, 22)
				l[place].Y = other
				expectJoin(t, l, 2, 0, api.ErrProof)
			}
		}
	}
}

// sums returns the sums of two lists of elements.
func sums(t *testing.T, a, b []int) []int {
	t.Helper()
	list := make([]int, len(a))
	for i := range a {
		list[i] = add(t, a[i], b[i])
	}
	return list
}

// P7.6: sums of all shares, and secrets that are joined from sums of some of them.
func TestSums(t *testing.T) {
	random := rand.New(rand.NewSource(7))
	eachNeed(func(need, total int) {
		for _, a := range append(edges(), anyElement(random)) {
			b := anyElement(random)
			first, second := anyList(random, need-1), anyList(random, need-1)
			l, others := split(t, a, need, total, first), split(t, b, need, total, second)
			for i := range l {
				l[i].Y = add(t, l[i].Y, others[i].Y)
			}
			expectSplit(t, add(t, a, b), need, total, sums(t, first, second), l, api.OK)
			for n := need; n <= total; n++ {
				expectJoin(t, anyOf(random, l, n), need, add(t, a, b), api.OK)
			}
		}
	})
}

// P7.6: two secrets that need different numbers of shares; the sums need the greater one.
func TestSumsOfDifferentNeeds(t *testing.T) {
	random := rand.New(rand.NewSource(8))
	eachNeed(func(need, total int) {
		for fewer := 1; fewer < need; fewer++ {
			a, b := anyElement(random), anyElement(random)
			l, others := split(t, a, need, total, anyList(random, need-1)), split(t, b, fewer, total, anyList(random, fewer-1))
			for i := range l {
				l[i].Y = add(t, l[i].Y, others[i].Y)
			}
			expectJoin(t, anyOf(random, l, need), need, add(t, a, b), api.OK)
			expectJoin(t, l, need, add(t, a, b), api.OK)
		}
	})
}
