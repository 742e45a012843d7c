package tests

import (
	"testing"

	"loop.example/purser/impl"
)

// P74
func TestWorldNewByHand(t *testing.T) {
	w := checkNew(t, twoOfThree(1), []int{3}, true)
	checkWorldOk(t, w, true)
	if w.Now != 0 || len(w.Roots) != 1 || len(w.Indexes)+len(w.Pkgs)+len(w.Store) > 0 || w.Trust.Has || !sameRoot(w.Trust.Root, twoOfThree(1)) {
		t.Errorf("WorldNew is %v", w)
	}
	if s := w.Roots[0]; !sameSigRoot(s, impl.SigRoot{Root: twoOfThree(1), By: []int{1, 2, 3}}) || !sameDisk(w.Disk, impl.DiskNew()) {
		t.Errorf("WorldNew is %v", w)
	}
	for _, bad := range [][]int{nil, {1}, {2}, {4}, {6}, {4, 5, 6}, {1, 4, 5, 6}} {
		checkNew(t, twoOfThree(1), bad, true)
	}
	for _, bad := range [][]int{{1, 2}, {2, 3}, {1, 3}, {1, 2, 3}, {1, 2, 3, 4, 5, 6}} {
		checkNew(t, twoOfThree(1), bad, false)
	}
}

// P74: bad keys that are none, just too few, just enough, and all.
func TestWorldNewOfAllRootsAndBadKeys(t *testing.T) {
	for _, r := range rootsOf(1) {
		for _, bad := range allKeys() {
			w := checkNew(t, r, bad, wantBoth(r.Keys, bad) < r.Need)
			checkWorldOk(t, w, wantBoth(r.Keys, bad) < r.Need)
		}
	}
}

func TestWorldNewNot(t *testing.T) {
	for _, r := range oddRoots() {
		for _, bad := range [][]int{nil, {3}, {4, 5}, {1, 2, 3}} {
			checkNew(t, r, bad, false)
		}
	}
	for num := 2; num <= 9; num++ {
		checkNew(t, twoOfThree(num), []int{3}, false)
		checkNew(t, twoOfThree(num), nil, false)
	}
	for _, bad := range oddKeys() {
		checkNew(t, twoOfThree(1), bad, false)
		checkNew(t, impl.Root{Num: 1, Keys: []int{1, 2, 3, 4, 5, 6}, Need: 6}, bad, false)
	}
}
