package tests

import (
	"testing"

	"loop.example/purser/impl"
)

func checkRootOk(t *testing.T, r impl.Root, want bool) {
	t.Helper()
	if got := impl.RootOk(r); got != want {
		t.Errorf("RootOk(%v) = %v, want %v", r, got, want)
	}
}

func TestRootOkByHand(t *testing.T) {
	checkRootOk(t, impl.Root{Num: 1, Keys: []int{1, 2, 3}, Need: 2}, true)
	checkRootOk(t, impl.Root{Num: 9, Keys: []int{6}, Need: 1}, true)
	checkRootOk(t, impl.Root{Num: 1, Keys: []int{1, 2, 3, 4, 5, 6}, Need: 6}, true)
	for _, r := range oddRoots() {
		checkRootOk(t, r, false)
	}
}

func TestRootOkAtItsBounds(t *testing.T) {
	numbers := append([]int{}, farNumbers...)
	for n := -20; n <= 20; n++ {
		numbers = append(numbers, n)
	}
	for _, keys := range allKeys() {
		for _, n := range numbers {
			checkRootOk(t, impl.Root{Num: n, Keys: keys, Need: 1}, len(keys) > 0 && 1 <= n && n <= 9)
			checkRootOk(t, impl.Root{Num: 9, Keys: keys, Need: n}, 1 <= n && n <= len(keys))
		}
	}
}

func TestRootOkOfAnyKeys(t *testing.T) {
	for _, keys := range shortLists() {
		for need := range 6 {
			r := impl.Root{Num: 3, Keys: keys, Need: need}
			checkRootOk(t, r, isRoot(r))
		}
	}
}

// P17
func TestRootWithoutAKey(t *testing.T) {
	for _, r := range okRoots() {
		for i := range r.Keys {
			left := without(r.Keys, i)
			checkRootOk(t, impl.Root{Num: r.Num, Keys: left, Need: r.Need}, r.Need <= len(left))
		}
	}
}

// P17
func TestRootWithFewerNeeded(t *testing.T) {
	for _, r := range okRoots() {
		for need := r.Need; need >= 1; need-- {
			checkRootOk(t, impl.Root{Num: r.Num, Keys: r.Keys, Need: need}, true)
		}
		checkRootOk(t, impl.Root{Num: r.Num, Keys: r.Keys, Need: 0}, false)
	}
}
