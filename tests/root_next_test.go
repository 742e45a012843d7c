package tests

import (
	"slices"
	"testing"

	"loop.example/purser/impl"
)

// union is all keys of both lists, ascending.
func union(a, b []int) []int {
	all := slices.Concat(a, b)
	slices.Sort(all)
	return slices.Compact(all)
}

func TestNextByHand(t *testing.T) {
	r := impl.Root{Num: 1, Keys: []int{1, 2, 3}, Need: 2}
	n := impl.Root{Num: 2, Keys: []int{4, 5}, Need: 1}
	for _, by := range [][]int{{1, 2, 4}, {2, 3, 5}, {1, 2, 3, 4, 5}, {1, 2, 5, 6}} {
		checkNext(t, r, impl.SigRoot{Root: n, By: by}, true)
	}
	for _, by := range [][]int{
		nil, {1, 2}, {1, 2, 3}, {4, 5}, {1, 4, 5}, {3, 4, 5, 6}, {1, 2, 3, 6}, // too few of one of them
		{1, 1, 4}, {1, 2, 4, 4}, {1, 2, 2, 4}, {4, 1, 2}, {1, 2, 4, 7}, {0, 1, 2, 4}, // no keys
	} {
		checkNext(t, r, impl.SigRoot{Root: n, By: by}, false)
	}
	checkNext(t, impl.Root{}, impl.SigRoot{}, false)
	checkNext(t, r, impl.SigRoot{}, false)
	checkNext(t, impl.Root{}, impl.SigRoot{Root: r, By: r.Keys}, false)
}

// P15
func TestNextOfAllRootsByAllKeys(t *testing.T) {
	for _, r := range rootsOf(1) {
		for _, n := range rootsOf(2) {
			for _, by := range allKeys() {
				enough := wantBoth(r.Keys, by) >= r.Need && wantBoth(n.Keys, by) >= n.Need
				checkNext(t, r, impl.SigRoot{Root: n, By: by}, enough)
			}
		}
	}
}

// P15
func TestNextSignedByKeysOfOne(t *testing.T) {
	for num := 1; num <= 8; num++ {
		for _, r := range rootsOf(num) {
			for _, n := range rootsOf(num + 1) {
				both := wantBoth(r.Keys, n.Keys)
				checkNext(t, r, impl.SigRoot{Root: n, By: r.Keys}, both >= n.Need)
				checkNext(t, r, impl.SigRoot{Root: n, By: n.Keys}, both >= r.Need)
			}
		}
	}
}

// P15
func TestNextIsSignedAsBothSay(t *testing.T) {
	for _, r := range rootsOf(8) {
		for i, n := range rootsOf(9) {
			by := allKeys()[i%64]
			next := impl.RootNext(r, impl.SigRoot{Root: n, By: by})
			if next != (impl.RootSigned(r, by) && impl.RootSigned(n, by)) {
				t.Errorf("RootNext of %v and %v by %v is %v", r, n, by, next)
			}
		}
	}
}

// P16
func TestNextNumbers(t *testing.T) {
	r := impl.Root{Keys: []int{1, 2, 3}, Need: 2}
	n := impl.Root{Keys: []int{2, 3, 4}, Need: 2}
	numbers := append([]int{}, farNumbers...)
	for num := -3; num <= 14; num++ {
		numbers = append(numbers, num)
	}
	for _, r.Num = range numbers {
		for _, n.Num = range numbers {
			want := 1 <= r.Num && r.Num <= 8 && n.Num == r.Num+1
			checkNext(t, r, impl.SigRoot{Root: n, By: []int{2, 3}}, want)
		}
	}
}

// P16
func TestNextOfNoOtherNumber(t *testing.T) {
	for _, r := range rootsOf(4) {
		for _, n := range rootsOf(5) {
			s := impl.SigRoot{Root: n, By: union(r.Keys, n.Keys)}
			checkNext(t, r, s, true)
			checkNext(t, n, s, false)
			checkNext(t, n, impl.SigRoot{Root: r, By: s.By}, false)
			for num := 0; num <= 10; num++ {
				s.Root.Num = num
				checkNext(t, r, s, num == 5)
			}
		}
	}
}

// P18
func TestNextWithTheSameKeys(t *testing.T) {
	for _, r := range okRoots() {
		n := impl.Root{Num: r.Num + 1, Keys: r.Keys, Need: r.Need}
		s := impl.SigRoot{Root: n, By: r.Keys}
		checkNext(t, r, s, r.Num < 9)
		s = impl.SigRoot{Root: impl.Root{Num: n.Num, Keys: slices.Clone(r.Keys), Need: r.Need}, By: slices.Clone(r.Keys)}
		checkNext(t, r, s, r.Num < 9)
	}
}

func TestNextOfWhatIsNotOk(t *testing.T) {
	all := []int{1, 2, 3, 4, 5, 6}
	good := impl.Root{Num: 2, Keys: []int{1, 2, 3}, Need: 1}
	for _, r := range oddRoots() {
		good.Num = 2
		checkNext(t, r, impl.SigRoot{Root: good, By: all}, false)
		good.Num = r.Num + 1
		checkNext(t, r, impl.SigRoot{Root: good, By: all}, false)
		good.Num = r.Num - 1
		checkNext(t, good, impl.SigRoot{Root: r, By: all}, false)
		checkNext(t, good, impl.SigRoot{Root: r, By: r.Keys}, false)
		// The one ahead is ok, and of the number ahead, so that just the other root can be what is wrong.
		if r.Num == 1 {
			r.Num = 3
			good.Num = 2
			checkNext(t, good, impl.SigRoot{Root: r, By: all}, false)
		}
	}
	for _, by := range oddKeys() {
		good.Num = 1
		s := impl.SigRoot{Root: impl.Root{Num: 2, Keys: []int{1, 2, 3}, Need: 1}, By: by}
		checkNext(t, good, s, false)
	}
}

func TestNextOfAnyKeysThatSign(t *testing.T) {
	r := impl.Root{Num: 6, Keys: []int{1, 2, 3}, Need: 2}
	n := impl.Root{Num: 7, Keys: []int{3, 4}, Need: 1}
	for _, by := range shortLists() {
		s := impl.SigRoot{Root: n, By: by}
		checkNext(t, r, s, wantNext(r, s))
	}
}
