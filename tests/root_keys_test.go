package tests

import (
	"slices"
	"testing"

	"loop.example/purser/impl"
)

func checkKeysOk(t *testing.T, keys []int, want bool) {
	t.Helper()
	if got := impl.KeysOk(keys); got != want {
		t.Errorf("KeysOk(%v) = %v, want %v", keys, got, want)
	}
}

func checkBoth(t *testing.T, a, b []int, want int) {
	t.Helper()
	if got := impl.KeysBoth(a, b); got != want {
		t.Errorf("KeysBoth(%v, %v) = %d, want %d", a, b, got, want)
	}
}

func TestLimitValuesOfRoots(t *testing.T) {
	if impl.KeyMax != 6 || impl.RootMax != 9 {
		t.Errorf("limits are %d and %d, want 6 and 9", impl.KeyMax, impl.RootMax)
	}
}

func TestKeysOkByHand(t *testing.T) {
	for _, keys := range [][]int{nil, {}, {1}, {6}, {1, 6}, {2, 3, 5}, {1, 2, 3, 4, 5, 6}} {
		checkKeysOk(t, keys, true)
	}
	for _, keys := range oddKeys() {
		checkKeysOk(t, keys, false)
	}
}

func TestKeysOkOfShortLists(t *testing.T) {
	for _, keys := range shortLists() {
		_, want := keysMask(keys)
		checkKeysOk(t, keys, want)
	}
}

func TestKeysOkOfLongerLists(t *testing.T) {
	for _, keys := range allKeys() {
		for n := -1; n <= 8; n++ {
			for place := range len(keys) + 1 {
				list := slices.Insert(slices.Clone(keys), place, n)
				_, want := keysMask(list)
				checkKeysOk(t, list, want)
			}
		}
	}
}

// P11
func TestKeysWithoutAnyAndTwice(t *testing.T) {
	for _, keys := range allKeys() {
		checkKeysOk(t, keys, true)
		for i, k := range keys {
			checkKeysOk(t, without(keys, i), true)
			for place := range len(keys) + 1 {
				checkKeysOk(t, slices.Insert(slices.Clone(keys), place, k), false)
			}
		}
		if len(keys) > 0 {
			checkKeysOk(t, slices.Concat(keys, keys), false)
		}
	}
}

func TestKeysBothByHand(t *testing.T) {
	checkBoth(t, nil, nil, 0)
	checkBoth(t, []int{}, nil, 0)
	checkBoth(t, []int{1, 4}, []int{2, 4, 5}, 1)
	checkBoth(t, []int{1, 2, 3}, []int{4, 5, 6}, 0)
	checkBoth(t, []int{1, 3, 5, 6}, []int{1, 2, 5, 6}, 3)
	checkBoth(t, []int{1, 2, 3, 4, 5, 6}, []int{1, 2, 3, 4, 5, 6}, 6)
	checkBoth(t, []int{2, 2}, []int{2}, -1)
	checkBoth(t, []int{2}, []int{2, 2}, -1)
}

// P10
func TestKeysBothOfAllKeys(t *testing.T) {
	for _, a := range allKeys() {
		checkBoth(t, a, a, len(a))
		checkBoth(t, a, slices.Clone(a), len(a))
		for _, b := range allKeys() {
			checkBoth(t, a, b, wantBoth(a, b))
			if impl.KeysBoth(a, b) != impl.KeysBoth(b, a) {
				t.Errorf("KeysBoth of %v and %v minds which are first", a, b)
			}
			if n := impl.KeysBoth(a, b); n > len(a) || n > len(b) || n < 0 {
				t.Errorf("KeysBoth(%v, %v) = %d", a, b, n)
			}
		}
	}
}

// P10
func TestKeysBothOfWhatAreNoKeys(t *testing.T) {
	odd := oddKeys()
	for _, a := range odd {
		for _, b := range allKeys() {
			checkBoth(t, a, b, -1)
			checkBoth(t, b, a, -1)
		}
		for _, b := range odd {
			checkBoth(t, a, b, -1)
		}
	}
	for _, a := range shortLists() {
		for _, b := range [][]int{nil, {2, 4}, {1, 2, 3, 4, 5, 6}, {3, 3}} {
			checkBoth(t, a, b, wantBoth(a, b))
			checkBoth(t, b, a, wantBoth(a, b))
		}
	}
}

// P19
func TestKeysBothOfAllAndOfNone(t *testing.T) {
	all := []int{1, 2, 3, 4, 5, 6}
	for _, keys := range allKeys() {
		checkBoth(t, all, keys, len(keys))
		checkBoth(t, keys, all, len(keys))
		checkBoth(t, nil, keys, 0)
		checkBoth(t, keys, nil, 0)
		checkBoth(t, []int{}, keys, 0)
		checkBoth(t, keys, []int{}, 0)
	}
}
