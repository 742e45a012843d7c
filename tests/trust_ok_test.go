package tests

import (
	"testing"

	"loop.example/purser/impl"
)

// P29
func TestTrustNewOfAllRoots(t *testing.T) {
	for _, r := range okRoots() {
		v, ok := impl.TrustNew(r)
		if !ok || !sameTrust(v, impl.Trust{Root: r}) || !impl.TrustOk(v) {
			t.Errorf("TrustNew(%v) = %v, %v", r, v, ok)
		}
	}
}

// P29
func TestTrustNewHasNoIndexThatCounts(t *testing.T) {
	for _, r := range rootsOf(1) {
		v := mustTrust(t, r)
		for _, now := range edgeNumbers() {
			checkFresh(t, v, now, false)
		}
	}
}

// P29
func TestTrustNewOfWhatIsNoRoot(t *testing.T) {
	for _, r := range oddRoots() {
		if v, ok := impl.TrustNew(r); ok || !sameTrust(v, impl.Trust{}) {
			t.Errorf("TrustNew(%v) = %v, %v; want nothing and false", r, v, ok)
		}
	}
}

func TestTrustOkByHand(t *testing.T) {
	v := impl.Trust{Root: twoOfThree(1)}
	checkTrustOk(t, v, true)
	v.Has = true
	checkTrustOk(t, v, false)
	v.Index = impl.Index{Num: 1}
	checkTrustOk(t, v, true)
	v.Has = false
	checkTrustOk(t, v, false)
	checkTrustOk(t, impl.Trust{}, false)
	checkTrustOk(t, impl.Trust{Has: true}, false)
	checkTrustOk(t, trusting(impl.Root{}, plainIndex(1, 6)), false)
}

func TestTrustOkOfRootsAndIndexes(t *testing.T) {
	for _, v := range someTrusts() {
		checkTrustOk(t, v, true)
	}
	for _, v := range oddTrusts() {
		checkTrustOk(t, v, false)
	}
}

// The empty list is the nil list, so an index that has it is nothing, too.
func TestTrustOkTakesEmptyLists(t *testing.T) {
	v := impl.Trust{Root: twoOfThree(9), Index: impl.Index{Metas: []impl.Meta{}}}
	checkTrustOk(t, v, true)
	v.Index.Metas = plainIndex(1, 1).Metas[:0]
	checkTrustOk(t, v, true)
	checkTrustIndex(t, v, impl.SigIndex{Index: plainIndex(1, 1), By: []int{1, 2}}, 1, true)
}

// P33
func TestTrustFreshJustUpToUntil(t *testing.T) {
	for until := 0; until <= 60; until++ {
		for _, x := range []impl.Index{{Num: 1, Until: until}, plainIndex(30, until)} {
			for _, now := range edgeNumbers() {
				checkFresh(t, trusting(twoOfThree(2), x), now, 0 <= now && now <= until)
			}
		}
	}
}

// P33
func TestTrustFreshOfAllTrust(t *testing.T) {
	for _, v := range someTrusts() {
		for _, now := range []int{-1, 0, v.Index.Until - 1, v.Index.Until, v.Index.Until + 1, 60, 61} {
			checkFresh(t, v, now, v.Has && 0 <= now && now <= v.Index.Until)
		}
	}
}

// P33
func TestTrustFreshOfWhatIsNotOk(t *testing.T) {
	for _, v := range oddTrusts() {
		for _, now := range []int{-1, 0, 1, v.Index.Until, v.Index.Until - 1, 60} {
			checkFresh(t, v, now, false)
		}
	}
}
