package tests

import (
	"math/rand"
	"slices"
	"testing"

	"loop.example/purser/impl"
)

func TestTrustIndexByHand(t *testing.T) {
	v := mustTrust(t, twoOfThree(1))
	two := checkTrustIndex(t, v, impl.SigIndex{Index: plainIndex(2, 6), By: []int{1, 3}}, 6, true)
	if !sameTrust(two, trusting(twoOfThree(1), plainIndex(2, 6))) {
		t.Errorf("trusted is %v", two)
	}
	checkTrustIndex(t, two, impl.SigIndex{Index: plainIndex(1, 6), By: []int{1, 3}}, 6, false)
	checkTrustIndex(t, two, impl.SigIndex{Index: plainIndex(2, 6), By: []int{1, 3}}, 6, false)
	checkTrustIndex(t, two, impl.SigIndex{Index: plainIndex(2, 7), By: []int{1, 3}}, 6, false)
	three := checkTrustIndex(t, two, impl.SigIndex{Index: impl.Index{Num: 3, Until: 5}, By: []int{2, 3}}, 0, true)
	if !sameTrust(three, trusting(twoOfThree(1), impl.Index{Num: 3, Until: 5})) {
		t.Errorf("trusted is %v", three)
	}
	if v.Has || !sameTrust(two, trusting(twoOfThree(1), plainIndex(2, 6))) {
		t.Errorf("what was trusted is now %v and %v", v, two)
	}
}

// P31
func TestTrustIndexOfAllRootsByAllKeys(t *testing.T) {
	for _, r := range okRoots() {
		for _, by := range allKeys() {
			s := impl.SigIndex{Index: plainIndex(5, 20), By: by}
			enough := wantBoth(r.Keys, by) >= r.Need
			checkTrustIndex(t, impl.Trust{Root: r}, s, 20, enough)
			checkTrustIndex(t, trusting(r, plainIndex(4, 3)), s, 20, enough)
			checkTrustIndex(t, trusting(r, plainIndex(5, 3)), s, 20, false)
		}
	}
}

// P31: one less, the same, and one more than the number that is trusted, and all others.
func TestTrustIndexNumbers(t *testing.T) {
	for num := 1; num <= 30; num++ {
		v := trusting(twoOfThree(1), plainIndex(num, 20))
		for _, other := range edgeNumbers() {
			for _, x := range []impl.Index{plainIndex(other, 20), {Num: other, Until: 60}} {
				s := impl.SigIndex{Index: x, By: []int{1, 2}}
				checkTrustIndex(t, v, s, 20, num < other && other <= 30)
				checkTrustIndex(t, impl.Trust{Root: twoOfThree(1)}, s, 20, 1 <= other && other <= 30)
			}
		}
	}
}

// P31: an index of the same number is not taken, whatever it tells, and however long it counts.
func TestTrustIndexOfTheSameNumber(t *testing.T) {
	indexes := someIndexes()
	for _, v := range someTrusts() {
		if !v.Has {
			continue
		}
		for i, x := range indexes {
			if i%11 == 0 {
				x.Num, x.Until = v.Index.Num, 60
				checkTrustIndex(t, v, impl.SigIndex{Index: x, By: v.Root.Keys}, 0, false)
			}
		}
	}
}

// P31
func TestTrustIndexOfTheSameAgain(t *testing.T) {
	indexes := someIndexes()
	for i, v := range someTrusts() {
		x := indexes[i%len(indexes)]
		s := impl.SigIndex{Index: x, By: v.Root.Keys}
		for _, now := range []int{0, x.Until / 2, x.Until} {
			got := checkTrustIndex(t, v, s, now, !v.Has || x.Num > v.Index.Num)
			checkTrustIndex(t, got, s, now, false)
			if v.Has {
				checkTrustIndex(t, got, impl.SigIndex{Index: v.Index, By: v.Root.Keys}, 0, false)
			}
			checkFresh(t, got, now, got.Has && now <= got.Index.Until)
		}
	}
}

// P31
func TestTrustIndexThatWasTakenCountsThen(t *testing.T) {
	for _, x := range someIndexes() {
		for _, now := range edgeNumbers() {
			v, ok := impl.TrustIndex(impl.Trust{Root: twoOfThree(2)}, impl.SigIndex{Index: x, By: []int{1, 2, 3}}, now)
			if ok != impl.TrustFresh(v, now) || ok && !sameIndex(v.Index, x) {
				t.Errorf("%v at %d: %v, %v", x, now, v, ok)
			}
		}
	}
}

// P32
func TestTrustIndexByTooFew(t *testing.T) {
	for _, r := range okRoots() {
		v := impl.Trust{Root: r}
		others := slices.DeleteFunc(maskKeys(63), func(k int) bool { return slices.Contains(r.Keys, k) })
		for n := range len(r.Keys) + 1 {
			for _, own := range [][]int{r.Keys[:n], r.Keys[len(r.Keys)-n:]} {
				s := impl.SigIndex{Index: plainIndex(1, 60), By: own}
				checkTrustIndex(t, v, s, 0, n >= r.Need)
				s.By = union(own, others)
				checkTrustIndex(t, v, s, 0, n >= r.Need)
			}
		}
	}
}

// P35
func TestTrustIndexTimes(t *testing.T) {
	for until := 0; until <= 60; until++ {
		for _, v := range []impl.Trust{{Root: twoOfThree(1)}, trusting(twoOfThree(1), plainIndex(2, 60)), trusting(twoOfThree(1), plainIndex(2, 0))} {
			s := impl.SigIndex{Index: plainIndex(3, until), By: []int{2, 3}}
			for _, now := range edgeNumbers() {
				checkTrustIndex(t, v, s, now, 0 <= now && now <= until)
			}
		}
	}
}

// P35: what is false at a time within bounds leaves what was, at one out of them there is nothing.
func TestTrustIndexTimesOutOfBounds(t *testing.T) {
	v := trusting(twoOfThree(1), plainIndex(2, 20))
	for _, x := range []impl.Index{plainIndex(3, 60), plainIndex(3, 0), plainIndex(2, 60), {}} {
		s := impl.SigIndex{Index: x, By: []int{1, 2}}
		for _, now := range edgeNumbers() {
			got, ok := impl.TrustIndex(v, s, now)
			if now < 0 || now > 60 {
				if ok || !sameTrust(got, impl.Trust{}) {
					t.Errorf("TrustIndex(%v, %v, %d) = %v, %v; want nothing and false", v, s, now, got, ok)
				}
			} else if !ok && !sameTrust(got, v) {
				t.Errorf("TrustIndex(%v, %v, %d) = %v, %v; want what was trusted", v, s, now, got, ok)
			}
		}
	}
}

// P35
func TestTrustIndexOfAnElderNumber(t *testing.T) {
	for num := 1; num <= 30; num++ {
		for elder := 1; elder <= num; elder++ {
			for _, until := range []int{7, 8, 60} {
				v := trusting(twoOfThree(1), plainIndex(num, 7))
				checkTrustIndex(t, v, impl.SigIndex{Index: plainIndex(elder, until), By: []int{1, 2, 3}}, 7, false)
			}
		}
	}
}

// P36
func TestTrustInAnyOrder(t *testing.T) {
	x := plainIndex(4, 12)
	for i, r := range rootsOf(1) {
		for j, n := range rootsOf(2) {
			by := maskKeys(uint(11*i+j) % 64)
			rootFirst := impl.SigRoot{Root: n, By: union(r.Keys, n.Keys)}
			index := impl.SigIndex{Index: x, By: by}
			if !wantSigned(r, by) || !wantSigned(n, by) {
				continue
			}
			for _, v := range []impl.Trust{{Root: r}, trusting(r, plainIndex(3, 60))} {
				a := checkTrustIndex(t, checkTrustRoot(t, v, rootFirst, true), index, 12, true)
				b := checkTrustRoot(t, checkTrustIndex(t, v, index, 12, true), rootFirst, true)
				if !sameTrust(a, trusting(n, x)) || !sameTrust(b, trusting(n, x)) {
					t.Errorf("of %v and %v: %v and %v", r, n, a, b)
				}
			}
		}
	}
}

// An index that just the elder root's keys sign is taken ahead of the new root, not behind it.
func TestTrustIndexSignedByKeysOfOneRoot(t *testing.T) {
	v := mustTrust(t, twoOfThree(1))
	next := impl.SigRoot{Root: impl.Root{Num: 2, Keys: []int{4, 5, 6}, Need: 2}, By: []int{1, 2, 4, 5}}
	elder := impl.SigIndex{Index: plainIndex(1, 9), By: []int{1, 2, 3}}
	newer := impl.SigIndex{Index: plainIndex(2, 9), By: []int{4, 6}}
	both := impl.SigIndex{Index: plainIndex(3, 9), By: []int{1, 2, 4, 6}}
	w := checkTrustRoot(t, v, next, true)
	checkTrustIndex(t, v, elder, 3, true)
	checkTrustIndex(t, w, elder, 3, false)
	checkTrustIndex(t, v, newer, 3, false)
	checkTrustIndex(t, w, newer, 3, true)
	checkTrustIndex(t, v, both, 3, true)
	checkTrustIndex(t, w, both, 3, true)
	// What is trusted already stays behind a new root, though that one's keys did not sign it.
	checkTrustRoot(t, checkTrustIndex(t, v, elder, 3, true), next, true)
}

func TestTrustIndexOfWhatIsNotOk(t *testing.T) {
	all := []int{1, 2, 3, 4, 5, 6}
	for _, v := range oddTrusts() {
		for _, now := range []int{-1, 0, 5, 60, 61} {
			checkTrustIndex(t, v, impl.SigIndex{Index: plainIndex(30, 60), By: all}, now, false)
			checkTrustIndex(t, v, impl.SigIndex{Index: v.Index, By: v.Root.Keys}, now, false)
			checkTrustIndex(t, v, impl.SigIndex{}, now, false)
		}
	}
	for _, v := range []impl.Trust{{Root: twoOfThree(1)}, trusting(twoOfThree(1), impl.Index{Num: 1})} {
		for _, x := range oddIndexes() {
			for _, now := range []int{-1, 0, 5, 60, 61} {
				checkTrustIndex(t, v, impl.SigIndex{Index: x, By: all}, now, false)
			}
		}
		for _, by := range append(oddKeys(), shortLists()...) {
			s := impl.SigIndex{Index: plainIndex(2, 2), By: by}
			checkTrustIndex(t, v, s, 1, wantSigned(v.Root, by))
		}
	}
}

// P30, P31: whatever is brought, no number goes back, and what is trusted was brought, and signed.
func TestTrustNeverGoesBack(t *testing.T) {
	r := rand.New(rand.NewSource(36))
	roots, indexes := okRoots(), someIndexes()
	for range 300 {
		v := mustTrust(t, roots[r.Intn(2*192)])
		for range 60 {
			was, by, now := v, maskKeys(uint(r.Intn(64))|uint(r.Intn(64))), r.Intn(61)
			if r.Intn(2) == 0 {
				s := impl.SigRoot{Root: roots[(v.Root.Num-1+r.Intn(3))%9*192+r.Intn(192)], By: by}
				v = checkTrustRoot(t, v, s, wantNext(v.Root, s))
			} else {
				s := impl.SigIndex{Index: indexes[r.Intn(len(indexes))], By: by}
				_, want := wantTrustIndex(v, s, now)
				v = checkTrustIndex(t, v, s, now, want)
			}
			checkTrustOk(t, v, true)
			if v.Root.Num < was.Root.Num || v.Index.Num < was.Index.Num || was.Has && !v.Has {
				t.Fatalf("from %v back to %v", was, v)
			}
		}
	}
}
