package tests

import (
	"math"
	"math/bits"
	"slices"
	"testing"

	"loop.example/purser/impl"
)

// farNumbers lie far out of all bounds, some of them within if bits are cut off.
var farNumbers = []int{math.MinInt, math.MinInt + 1, -1 << 32, -256, math.MaxInt32, 1 << 32, 1<<32 + 1, 1<<32 + 2, math.MaxInt - 1, math.MaxInt}

// maskKeys are the keys whose bits a mask has, the key 1 being its lowest.
func maskKeys(mask uint) []int {
	keys := []int{}
	for k := 1; k <= 6; k++ {
		if mask&(1<<(k-1)) != 0 {
			keys = append(keys, k)
		}
	}
	return keys
}

// keysMask is the mask of keys, and whether they are keys: a list is, if it is that of a mask.
func keysMask(keys []int) (uint, bool) {
	mask := uint(0)
	for _, k := range keys {
		if 1 <= k && k <= 6 {
			mask |= 1 << (k - 1)
		}
	}
	return mask, slices.Equal(keys, maskKeys(mask))
}

// allKeys are all lists of keys that are ok, the place of each its mask.
func allKeys() [][]int {
	lists := [][]int{}
	for mask := range uint(64) {
		lists = append(lists, maskKeys(mask))
	}
	return lists
}

// oddKeys are lists that are no keys: each order and twice of a few, bounds missed, and long ones.
func oddKeys() [][]int {
	lists := [][]int{
		{0}, {7}, {-1}, {0, 1}, {6, 7}, {1, 1}, {6, 6}, {2, 1}, {6, 5}, {1, 2, 2}, {1, 1, 2}, {1, 3, 2}, {3, 1, 2}, {2, 3, 1},
		{1, 2, 3, 4, 5, 6, 7}, {0, 1, 2, 3, 4, 5, 6}, {6, 5, 4, 3, 2, 1}, {1, 2, 3, 4, 5, 5}, {1, 2, 3, 4, 5, 6, 6}, {1, 2, 3, 4, 5, 6, 1},
		make([]int, 1000), slices.Repeat([]int{1, 2, 3}, 1000),
	}
	for _, n := range farNumbers {
		lists = append(lists, []int{n}, []int{1, n}, []int{n, 6})
	}
	long := []int{}
	for n := -500; n < 500; n++ {
		long = append(long, n)
	}
	return append(lists, long)
}

// shortLists are all lists of up to four numbers, from below the least key to above the greatest one.
func shortLists() [][]int {
	lists := [][]int{{}}
	for from := 0; len(lists[from]) < 4; from++ {
		for n := -1; n <= 8; n++ {
			lists = append(lists, append(slices.Clone(lists[from]), n))
		}
	}
	return lists
}

// wantBoth is, without the program, how many keys are among both.
func wantBoth(a, b []int) int {
	x, xOk := keysMask(a)
	y, yOk := keysMask(b)
	if !xOk || !yOk {
		return -1
	}
	return bits.OnesCount(x & y)
}

func isRoot(r impl.Root) bool {
	_, ok := keysMask(r.Keys)
	return ok && 1 <= r.Num && r.Num <= 9 && 1 <= r.Need && r.Need <= len(r.Keys)
}

func wantSigned(r impl.Root, by []int) bool {
	return isRoot(r) && wantBoth(r.Keys, by) >= r.Need
}

func wantNext(r impl.Root, s impl.SigRoot) bool {
	return wantSigned(r, s.By) && wantSigned(s.Root, s.By) && s.Root.Num-r.Num == 1
}

// rootsOf are all ok roots of a number.
func rootsOf(num int) []impl.Root {
	out := []impl.Root{}
	for _, keys := range allKeys() {
		for need := 1; need <= len(keys); need++ {
			out = append(out, impl.Root{Num: num, Keys: keys, Need: need})
		}
	}
	return out
}

// okRoots are all ok roots of all numbers.
func okRoots() []impl.Root {
	out := []impl.Root{}
	for num := 1; num <= 9; num++ {
		out = append(out, rootsOf(num)...)
	}
	return out
}

// oddRoots are roots that are not ok, each for one cause alone but the first.
func oddRoots() []impl.Root {
	out := []impl.Root{{}}
	for _, n := range append([]int{-1, 0, 10, 11}, farNumbers...) {
		out = append(out, impl.Root{Num: n, Keys: []int{1, 2, 3}, Need: 2})
	}
	for _, n := range append([]int{-1, 0, 4, 5}, farNumbers...) {
		out = append(out, impl.Root{Num: 1, Keys: []int{1, 2, 3}, Need: n})
	}
	for _, keys := range oddKeys() {
		out = append(out, impl.Root{Num: 1, Keys: keys, Need: 1})
	}
	for _, need := range []int{-1, 0, 1} {
		out = append(out, impl.Root{Num: 1, Need: need})
	}
	return out
}

// without is a new list, one place of a list left out.
func without(list []int, place int) []int {
	return slices.Concat(list[:place], list[place+1:])
}

func checkSigned(t *testing.T, r impl.Root, by []int, want bool) {
	t.Helper()
	if got := impl.RootSigned(r, by); got != want {
		t.Errorf("RootSigned(%v, %v) = %v, want %v", r, by, got, want)
	}
}

func checkNext(t *testing.T, r impl.Root, s impl.SigRoot, want bool) {
	t.Helper()
	if got := impl.RootNext(r, s); got != want {
		t.Errorf("RootNext(%v, %v) = %v, want %v", r, s, got, want)
	}
}
