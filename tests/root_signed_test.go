package tests

import (
	"slices"
	"testing"

	"loop.example/purser/impl"
)

func TestSignedByHand(t *testing.T) {
	r := impl.Root{Num: 1, Keys: []int{1, 2, 3}, Need: 2}
	for _, by := range [][]int{{1, 2}, {2, 3}, {1, 3}, {1, 2, 3}, {2, 3, 5}, {1, 2, 3, 4, 5, 6}} {
		checkSigned(t, r, by, true)
	}
	for _, by := range [][]int{nil, {}, {1}, {2, 5}, {4, 5, 6}, {3, 4, 5, 6}} {
		checkSigned(t, r, by, false)
	}
}

// A key that signs twice counts for nothing, not once.
func TestKeyThatSignsTwice(t *testing.T) {
	r := impl.Root{Num: 1, Keys: []int{1, 2, 3}, Need: 2}
	for _, by := range [][]int{{2, 2}, {1, 1, 2}, {1, 2, 2}, {1, 2, 3, 3}, {1, 2, 1}, {2, 1}, {1, 2, 5, 5}} {
		checkSigned(t, r, by, false)
	}
	for _, r := range rootsOf(5) {
		for i, k := range r.Keys {
			checkSigned(t, r, slices.Insert(slices.Clone(r.Keys), i, k), false)
			checkSigned(t, r, append(slices.Clone(r.Keys), k), false)
		}
	}
}

// P12
func TestRootSignedByAllAndByNone(t *testing.T) {
	all := []int{1, 2, 3, 4, 5, 6}
	for _, r := range okRoots() {
		if r.Need < 1 {
			t.Errorf("%v needs none", r)
		}
		checkSigned(t, r, r.Keys, true)
		checkSigned(t, r, slices.Clone(r.Keys), true)
		checkSigned(t, r, all, true)
		checkSigned(t, r, nil, false)
		checkSigned(t, r, []int{}, false)
		others := slices.DeleteFunc(slices.Clone(all), func(k int) bool { return slices.Contains(r.Keys, k) })
		checkSigned(t, r, others, false)
		r.Need = 0
		checkRootOk(t, r, false)
		checkSigned(t, r, r.Keys, false)
		checkSigned(t, r, nil, false)
	}
}

// P13
func TestSignedWithAKeyMoreOrLess(t *testing.T) {
	for _, r := range rootsOf(2) {
		for _, by := range allKeys() {
			if !impl.RootSigned(r, by) {
				continue
			}
			there := wantBoth(r.Keys, by)
			for k := 1; k <= 6; k++ {
				place, found := slices.BinarySearch(by, k)
				switch {
				case !found:
					checkSigned(t, r, slices.Insert(slices.Clone(by), place, k), true)
				case slices.Contains(r.Keys, k):
					checkSigned(t, r, without(by, place), there > r.Need)
				default:
					checkSigned(t, r, without(by, place), true)
				}
			}
		}
	}
}

// P13
func TestSignedByAsManyAsAreNeeded(t *testing.T) {
	for _, r := range okRoots() {
		for n := range len(r.Keys) + 1 {
			checkSigned(t, r, r.Keys[:n], n >= r.Need)
			checkSigned(t, r, r.Keys[len(r.Keys)-n:], n >= r.Need)
		}
	}
}

// P14
func TestSignedOfAllRootsAndKeys(t *testing.T) {
	for _, r := range okRoots() {
		for _, by := range allKeys() {
			checkSigned(t, r, by, wantSigned(r, by))
			checkSigned(t, r, by, impl.KeysBoth(r.Keys, by) >= r.Need)
		}
	}
}

// P14
func TestSignedOfWhatIsNotOk(t *testing.T) {
	odd := oddKeys()
	for _, r := range oddRoots() {
		for _, by := range allKeys() {
			checkSigned(t, r, by, false)
		}
		for _, by := range odd {
			checkSigned(t, r, by, false)
		}
		checkSigned(t, r, r.Keys, false)
	}
	for _, r := range okRoots() {
		for _, by := range odd {
			checkSigned(t, r, by, false)
		}
	}
	for _, by := range shortLists() {
		for _, r := range []impl.Root{{Num: 1, Keys: []int{3}, Need: 1}, {Num: 9, Keys: []int{1, 2, 3, 4, 5, 6}, Need: 2}} {
			checkSigned(t, r, by, wantSigned(r, by))
		}
	}
}
