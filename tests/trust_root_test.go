package tests

import (
	"slices"
	"testing"

	"loop.example/purser/impl"
)

func TestTrustRootByHand(t *testing.T) {
	v := trusting(twoOfThree(1), plainIndex(4, 20))
	n := impl.Root{Num: 2, Keys: []int{4, 5, 6}, Need: 2}
	for _, by := range [][]int{{1, 2, 4, 5}, {2, 3, 5, 6}, {1, 2, 3, 4, 5}, {1, 2, 3, 4, 5, 6}} {
		got := checkTrustRoot(t, v, impl.SigRoot{Root: n, By: by}, true)
		if !sameTrust(got, trusting(n, plainIndex(4, 20))) {
			t.Errorf("by %v: %v", by, got)
		}
	}
	for _, by := range [][]int{
		nil, {1, 2, 3}, {4, 5, 6}, {1, 4, 5, 6}, {1, 2, 3, 4}, {3, 6}, // too few of one of them
		{2, 2, 4, 5}, {1, 2, 4, 4}, {4, 5, 1, 2}, {1, 2, 4, 5, 7}, {0, 1, 2, 4, 5}, // no keys
	} {
		got := checkTrustRoot(t, v, impl.SigRoot{Root: n, By: by}, false)
		if !sameTrust(got, trusting(twoOfThree(1), plainIndex(4, 20))) {
			t.Errorf("by %v: %v", by, got)
		}
	}
}

// P30
func TestTrustRootOfAllRootsByAllKeys(t *testing.T) {
	indexes := someIndexes()
	for i, r := range rootsOf(1) {
		v := impl.Trust{Root: r}
		if i%2 == 0 {
			v = trusting(r, indexes[i])
		}
		for j, n := range rootsOf(2) {
			for k := range uint(16) {
				// Each pair of roots has every fourth choice of keys, and each choice comes to every fourth pair.
				s := impl.SigRoot{Root: n, By: maskKeys(4*k + uint(i+j)%4)}
				got := checkTrustRoot(t, v, s, wantNext(r, s))
				if !sameIndex(got.Index, v.Index) || got.Has != v.Has {
					t.Errorf("TrustRoot(%v, %v) has another index: %v", v, s, got)
				}
			}
		}
	}
}

// P30
func TestTrustRootJustIfRootNext(t *testing.T) {
	for _, v := range someTrusts() {
		for i, n := range rootsOf(v.Root.Num + 1) {
			s := impl.SigRoot{Root: n, By: maskKeys(uint(i*5) % 64)}
			checkTrustRoot(t, v, s, impl.RootNext(v.Root, s))
		}
	}
}

// P30
func TestTrustRootOfTheSameAgain(t *testing.T) {
	for _, v := range someTrusts() {
		for i, n := range rootsOf(v.Root.Num + 1) {
			if i%9 != v.Root.Need%9 {
				continue
			}
			s := impl.SigRoot{Root: n, By: union(v.Root.Keys, n.Keys)}
			elder := impl.SigRoot{Root: v.Root, By: s.By}
			got := checkTrustRoot(t, v, s, v.Root.Num < 9)
			checkTrustRoot(t, got, s, false)
			checkTrustRoot(t, got, elder, false)
		}
	}
}

// P30
func TestTrustRootNumbers(t *testing.T) {
	for num := 1; num <= 9; num++ {
		for _, v := range []impl.Trust{{Root: twoOfThree(num)}, trusting(twoOfThree(num), plainIndex(9, 9))} {
			for _, other := range edgeNumbers() {
				s := impl.SigRoot{Root: impl.Root{Num: other, Keys: []int{2, 3, 4}, Need: 2}, By: []int{2, 3}}
				checkTrustRoot(t, v, s, other == num+1 && num < 9)
			}
		}
	}
}

// P32
func TestTrustRootByTooFew(t *testing.T) {
	for _, r := range rootsOf(3) {
		v := trusting(r, plainIndex(2, 2))
		for _, by := range allKeys() {
			if wantBoth(r.Keys, by) >= r.Need {
				continue
			}
			for _, n := range []impl.Root{{Num: 4, Keys: by, Need: 1}, {Num: 4, Keys: r.Keys, Need: 1}, {Num: 4, Keys: maskKeys(63), Need: 1}} {
				checkTrustRoot(t, v, impl.SigRoot{Root: n, By: by}, false)
			}
		}
	}
}

// P32: by one less than are needed, by as many, and by one more, of the elder root and of the new one.
func TestTrustRootByAsManyAsAreNeeded(t *testing.T) {
	elder := impl.Root{Num: 1, Keys: []int{1, 2, 3}}
	newer := impl.Root{Num: 2, Keys: []int{4, 5, 6}}
	for elder.Need = 1; elder.Need <= 3; elder.Need++ {
		for newer.Need = 1; newer.Need <= 3; newer.Need++ {
			for a := range 4 {
				for b := range 4 {
					s := impl.SigRoot{Root: newer, By: slices.Concat(elder.Keys[:a], newer.Keys[:b])}
					checkTrustRoot(t, impl.Trust{Root: elder}, s, a >= elder.Need && b >= newer.Need)
				}
			}
		}
	}
}

// P34
func TestTrustRootTwoBehind(t *testing.T) {
	all := []int{1, 2, 3, 4, 5, 6}
	second, third := rootsOf(2), rootsOf(3)
	for i, r := range rootsOf(1) {
		for j, between := range second {
			behind := third[(7*i+j)%len(third)]
			v := mustTrust(t, r)
			one := impl.SigRoot{Root: between, By: union(r.Keys, between.Keys)}
			two := impl.SigRoot{Root: behind, By: union(between.Keys, behind.Keys)}
			checkTrustRoot(t, v, two, false)
			checkTrustRoot(t, v, impl.SigRoot{Root: behind, By: all}, false)
			checkTrustRoot(t, checkTrustRoot(t, v, one, true), two, true)
		}
	}
}

// P34
func TestTrustRootUpToTheLast(t *testing.T) {
	by := []int{1, 2, 3}
	v := mustTrust(t, twoOfThree(1))
	for num := 2; num <= 9; num++ {
		checkTrustRoot(t, v, impl.SigRoot{Root: twoOfThree(num + 1), By: by}, false)
		v = checkTrustRoot(t, v, impl.SigRoot{Root: twoOfThree(num), By: by}, true)
	}
	checkTrustRoot(t, v, impl.SigRoot{Root: twoOfThree(10), By: by}, false)
	if v.Root.Num != 9 {
		t.Errorf("behind all roots %v is trusted", v)
	}
}

func TestTrustRootOfWhatIsNotOk(t *testing.T) {
	all := []int{1, 2, 3, 4, 5, 6}
	good := twoOfThree(2)
	for _, v := range oddTrusts() {
		good.Num = v.Root.Num + 1
		checkTrustRoot(t, v, impl.SigRoot{Root: good, By: all}, false)
		checkTrustRoot(t, v, impl.SigRoot{Root: v.Root, By: v.Root.Keys}, false)
		checkTrustRoot(t, v, impl.SigRoot{}, false)
	}
	for _, v := range []impl.Trust{{Root: twoOfThree(1)}, trusting(twoOfThree(1), plainIndex(3, 3))} {
		for _, r := range oddRoots() {
			checkTrustRoot(t, v, impl.SigRoot{Root: r, By: all}, false)
			if r.Num == 1 {
				// The number is the next one, so that just the rest of the root can be what is wrong.
				r.Num = 2
				checkTrustRoot(t, v, impl.SigRoot{Root: r, By: all}, false)
			}
		}
		for _, by := range append(oddKeys(), shortLists()...) {
			s := impl.SigRoot{Root: twoOfThree(2), By: by}
			checkTrustRoot(t, v, s, wantNext(v.Root, s))
		}
	}
}
