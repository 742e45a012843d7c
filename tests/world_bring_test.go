package tests

import (
	"slices"
	"testing"

	"loop.example/purser/impl"
)

// grownWorld has three roots, three indexes, the last two signed by the second and the third root, and four packages; nothing was brought yet.
func grownWorld(t *testing.T) impl.World {
	t.Helper()
	return startOf(publishAll(t, "a1 0:1", "b1 1:3 a1")...).then(index(), publishRoot(2, 2, 3, 4)).then(publishAll(t, "c1 2:5 d1")...).
		then(index(), publishRoot(1, 5, 6)).then(publishAll(t, "d1 5:9")...).then(tick(2)...).then(index()).world()
}

// signedBy is the same root, or index, signed by others.
func signedBy(e impl.Event, by []int) impl.Event {
	e.Root.By, e.Index.By = by, by
	return e
}

// published are all events that bring a root, or an index, that was published.
func published(w impl.World) []impl.Event {
	out := []impl.Event{}
	for _, s := range w.Roots {
		out = append(out, bringRoot(s))
	}
	for _, s := range w.Indexes {
		out = append(out, bringIndex(s))
	}
	return out
}

// forged are events that bring a root, or an index, that was not published, all of which would be taken if enough keys signed.
func forged(w impl.World) []impl.Event {
	num := w.Trust.Root.Num + 1
	return []impl.Event{
		bringRoot(impl.SigRoot{Root: impl.Root{Num: num, Keys: []int{1, 2, 3, 4, 5, 6}, Need: 1}}), bringRoot(impl.SigRoot{Root: impl.Root{Num: num, Keys: []int{3, 6}, Need: 1}}),
		bringIndex(impl.SigIndex{Index: wantIndex(30, 60, w.Pkgs)}), bringIndex(impl.SigIndex{Index: wantIndex(30, 60, mixed(0xf0, 0x50))}),
		bringIndex(impl.SigIndex{Index: wantIndex(w.Trust.Index.Num+1, 60, nil)}), bringRoot(impl.SigRoot{}), bringIndex(impl.SigIndex{}),
	}
}

// justBad are the lists of which all keys are bad, none among them.
func justBad(w impl.World) [][]int {
	out := [][]int{}
	for _, keys := range allKeys() {
		if wantBoth(keys, w.Bad) == len(keys) {
			out = append(out, keys)
		}
	}
	return out
}

func TestMayByHand(t *testing.T) {
	w := grownWorld(t)
	for _, e := range published(w) {
		checkMay(t, w, e, true)
		for _, by := range [][]int{nil, {3}} {
			checkMay(t, w, signedBy(e, by), true)
		}
		for _, by := range [][]int{{1}, {2}, {1, 2}, {1, 3}, {2, 3, 4, 6}, {1, 2, 3, 4, 5, 6}, {3, 3}, {3, 1}, {0}, {7}} {
			checkMay(t, w, signedBy(e, by), false)
		}
		for _, kind := range []int{evPub, evIndex, evRoot, evTick, evBringPkg, evInst, evMend, 0, 11 - e.Kind} {
			other := e
			other.Kind = kind
			// Of the other one that is brought nothing is there, and nobody signs that.
			checkMay(t, w, other, kind == 11-e.Kind)
		}
	}
}

// What was published, but for one part of it, was not.
func TestMayOfWhatIsNearlyTheSame(t *testing.T) {
	w := grownWorld(t)
	for _, s := range w.Roots {
		keys, need := s.Root.Keys, 3-s.Root.Need
		for _, r := range []impl.Root{{Num: s.Root.Num + 1, Keys: keys, Need: s.Root.Need}, {Num: s.Root.Num, Keys: keys, Need: need}, {Num: s.Root.Num, Keys: keys[1:], Need: s.Root.Need}, {Num: s.Root.Num, Need: s.Root.Need}, {}} {
			checkMay(t, w, bringRoot(impl.SigRoot{Root: r, By: s.By}), false)
		}
	}
	for _, s := range w.Indexes {
		x := s.Index
		for _, y := range []impl.Index{{Num: 9, Until: x.Until, Metas: x.Metas}, {Num: x.Num, Until: x.Until + 1, Metas: x.Metas}, withoutMeta(x, 0), {Num: x.Num, Until: x.Until}, {}} {
			checkMay(t, w, bringIndex(impl.SigIndex{Index: y, By: s.By}), false)
		}
		for place := range x.Metas {
			y := cloneIndex(x)
			y.Metas[place].Sum++
			checkMay(t, w, bringIndex(impl.SigIndex{Index: y, By: s.By}), false)
		}
	}
}

// A root is asked for among roots, and an index among indexes, whatever stands beside it.
func TestMayAsksForItsOwnPart(t *testing.T) {
	w := grownWorld(t)
	ghost := impl.Event{Root: impl.SigRoot{Root: twoOfThree(2), By: []int{1, 2}}, Index: impl.SigIndex{Index: impl.Index{Num: 9}, By: []int{1, 2}}}
	root, x := ghost, ghost
	root.Kind, x.Kind, root.Root, x.Index = evBringRoot, evBringIndex, w.Roots[1], w.Indexes[1]
	checkMay(t, w, root, true)
	checkMay(t, w, x, true)
	root.Kind, x.Kind = x.Kind, root.Kind
	checkMay(t, w, root, false)
	checkMay(t, w, x, false)
}

// P84
func TestWhatJustBadKeysSign(t *testing.T) {
	for _, w := range append(playedWorlds(t), fullWorlds(t)...) {
		for _, by := range justBad(w) {
			for _, e := range forged(w) {
				checkMay(t, w, signedBy(e, by), true)
				checkNothing(t, w, signedBy(e, by))
			}
		}
		for i, e := range published(w) {
			by := justBad(w)
			checkNothing(t, w, signedBy(e, by[i%len(by)]))
		}
	}
}

// P85: by all keys, whoever they are.
func TestWhatWasNotPublished(t *testing.T) {
	for i, w := range playedWorlds(t) {
		for j, e := range append(forged(w), published(w)...) {
			for mask, by := range allKeys() {
				if e := signedBy(e, by); (i+j+mask)%9 == 0 && !wantMay(w, e) {
					checkMay(t, w, e, false)
					checkNothing(t, w, e)
				}
			}
		}
	}
}

func TestMayOfKeysThatAreNone(t *testing.T) {
	for _, w := range []impl.World{emptyWorld(), grownWorld(t), fullWorld(t)} {
		for _, by := range append(oddKeys(), []int{3, 3}, []int{0, 3}, []int{3, 7}) {
			for _, e := range append(forged(w), published(w)...) {
				checkMay(t, w, signedBy(e, by), false)
				checkNothing(t, w, signedBy(e, by))
			}
		}
	}
}

func TestMayInAnyWorld(t *testing.T) {
	for _, w := range append(playedWorlds(t), fullWorlds(t)...) {
		for _, e := range published(w) {
			checkMay(t, w, e, true)
			checkMay(t, w, signedBy(e, append(slices.Clone(e.Root.By), e.Index.By...)), true)
		}
	}
}

// A root that comes too early is not taken, but behind the one between; an elder one is not, nor the same again.
func TestBringRootByHand(t *testing.T) {
	w := grownWorld(t)
	first, second, third := bringRoot(w.Roots[0]), bringRoot(w.Roots[1]), bringRoot(w.Roots[2])
	checkNothing(t, w, third)
	checkNothing(t, w, first)
	w = checkChange(t, w, second)
	for _, e := range []impl.Event{first, second} {
		checkNothing(t, w, e)
	}
	w = checkChange(t, w, third)
	if !sameRoot(w.Trust.Root, w.Roots[2].Root) || w.Trust.Has {
		t.Errorf("all roots brought, %v is trusted", w.Trust)
	}
	for _, e := range []impl.Event{first, second, third} {
		checkNothing(t, w, e)
	}
}

// The last root that there may be is taken; nothing may come behind it.
func TestBringTheLastRoot(t *testing.T) {
	w := emptyWorld()
	for i := range 10 {
		w = checkHappenAll(t, w, publishRoot(2, 1, 2, 3+i%4), bringRoot(lastOf(w.Roots)))
	}
	w = checkHappenAll(t, w, published(w)...)
	if len(w.Roots) != 9 || w.Trust.Root.Num != 9 {
		t.Errorf("of %v the last root is not trusted: %v", w.Roots, w.Trust)
	}
	checkNothing(t, w, bringRoot(impl.SigRoot{Root: impl.Root{Num: 10, Keys: []int{3}, Need: 1}, By: []int{3}}))
}

func TestBringIndexByHand(t *testing.T) {
	w := grownWorld(t)
	first, second, third := bringIndex(w.Indexes[0]), bringIndex(w.Indexes[1]), bringIndex(w.Indexes[2])
	// The keys 5 and 6 are none of the first root's; 2 and 3 are enough of it, and of the second one.
	checkNothing(t, w, third)
	elder := checkChange(t, w, first)
	checkChange(t, elder, second)
	w = checkChange(t, w, second)
	for _, e := range []impl.Event{first, second, third} {
		checkNothing(t, w, e)
	}
	w = checkHappenAll(t, w, bringRoot(w.Roots[1]), bringRoot(w.Roots[2]))
	w = checkChange(t, w, third)
	for _, e := range []impl.Event{first, second, third} {
		checkNothing(t, w, e)
	}
	if w.Trust.Index.Num != 3 || !w.Trust.Has {
		t.Errorf("all brought, %v is trusted", w.Trust)
	}
}

// An index is taken up to the last time at which it counts, and not behind that.
func TestBringIndexAtItsEnd(t *testing.T) {
	w := checkHappenAll(t, emptyWorld(), index())
	for now := range 10 {
		if got := checkHappen(t, w, bringIndex(w.Indexes[0])); got.Trust.Has != (now <= 6) {
			t.Errorf("at %d %v is trusted", now, got.Trust)
		}
		w = checkHappen(t, w, impl.Event{Kind: evTick})
	}
	late := checkHappenAll(t, emptyWorld(), slices.Concat(tick(57), []impl.Event{index()}, tick(5))...)
	if got := checkHappen(t, late, bringIndex(late.Indexes[0])); !got.Trust.Has || got.Now != 60 {
		t.Errorf("at the end of time %v is trusted", got.Trust)
	}
}

// The last index that there may be is taken.
func TestBringTheLastIndex(t *testing.T) {
	w := checkHappenAll(t, emptyWorld(), often(31, index())...)
	for _, num := range []int{29, 28, 29, 30, 30, 1} {
		w = checkHappen(t, w, bringIndex(w.Indexes[num-1]))
	}
	if len(w.Indexes) != 30 || w.Trust.Index.Num != 30 {
		t.Errorf("the last index is not trusted: %v", w.Trust)
	}
}

// What is kept goes if an index that is taken does not tell of it, and stays if that is not taken.
func TestBringIndexTrims(t *testing.T) {
	w := fullWorld(t)
	w.Indexes = append(w.Indexes, impl.SigIndex{Index: wantIndex(6, 8, nil), By: []int{2, 3, 4}}, impl.SigIndex{Index: wantIndex(7, 9, w.Pkgs[1:2]), By: []int{2, 4}})
	checkWorldOk(t, w, true)
	for i, want := range [][]impl.Pkg{w.Store, w.Store, w.Store, w.Store[2:4], w.Store, w.Store, w.Store[1:2]} {
		if got := checkHappen(t, w, bringIndex(w.Indexes[i])); !samePkgs(got.Store, want) || !sameDisk(got.Disk, w.Disk) {
			t.Errorf("behind the index %d %v is kept, want %v", i+1, got.Store, want)
		}
	}
}

// All that was published, and what was not, brought to worlds of all kinds, leaves all else as it was.
func TestBringInAnyWorld(t *testing.T) {
	for i, w := range append(playedWorlds(t), fullWorlds(t)...) {
		events := published(w)
		for place := -1; place <= len(w.Pkgs); place++ {
			events = append(events, bringPkg(place), bringSpoilt(place, 2+(i+place)%12, 1+i%300))
		}
		for _, e := range events {
			got := checkHappen(t, w, e)
			if got.Now != w.Now || !samePublished(got, w) || !sameDisk(got.Disk, w.Disk) {
				t.Errorf("%v brought to %v: %v", e, w, got)
			}
		}
	}
}

func TestBringPkgByHand(t *testing.T) {
	w := grownWorld(t)
	for place := range w.Pkgs {
		checkNothing(t, w, bringPkg(place))
	}
	w = checkHappenAll(t, w, bringIndex(w.Indexes[1]))
	w = checkChange(t, w, bringPkg(2))
	w = checkChange(t, w, bringPkg(0))
	// The second index does not tell of d1, and what is kept is not taken again.
	for _, place := range []int{3, 2, 0} {
		checkNothing(t, w, bringPkg(place))
	}
	w = checkChange(t, w, bringPkg(1))
	if !samePkgs(w.Store, w.Pkgs[:3]) {
		t.Errorf("%v is kept, want %v", w.Store, w.Pkgs[:3])
	}
}

// P87: a package that there is none of.
func TestBringPkgOfNoPlace(t *testing.T) {
	for _, w := range []impl.World{emptyWorld(), checkHappen(t, grownWorld(t), bringIndex(grownWorld(t).Indexes[1])), fullWorld(t)} {
		for _, n := range append([]int{-2, -1, len(w.Pkgs), len(w.Pkgs) + 1}, farNumbers...) {
			for _, at := range []int{0, 2, 5, n} {
				checkNothing(t, w, bringSpoilt(n, at, 0))
				checkNothing(t, w, bringSpoilt(n, at, 1))
			}
		}
	}
}

// toldWorlds have one package, of which a trusted index tells, and keep nothing.
func toldWorlds(t *testing.T) []impl.World {
	t.Helper()
	out := []impl.World{}
	for _, text := range []string{"a1", "a1 0:1", "b3 0:0 5:9 a5 d1", "d5 a1", "c2 1:9 a2"} {
		w := checkHappenAll(t, emptyWorld(), append(publishAll(t, text), index())...)
		out = append(out, checkHappen(t, w, bringIndex(w.Indexes[0])))
	}
	return out
}

// A byte is changed from the third on up to the last; the first two, and those that there are none of, are as they are.
func TestBringPkgAtEachByte(t *testing.T) {
	for _, w := range toldWorlds(t) {
		size := len(wantText(w.Pkgs[0]))
		for _, at := range append([]int{-3, -2, -1, 0, 1, 2, 3, 4, 5, 6, size - 1, size, size + 1, 99}, farNumbers...) {
			for _, more := range []int{1, 2, 255, 257, -1, 128} {
				got := checkHappen(t, w, bringSpoilt(0, at, more))
				if isSpoilt := 2 <= at && at < size; isSpoilt != (len(got.Store) == 0) {
					t.Errorf("%v with %d more at %d: %v is kept", w.Pkgs, more, at, got.Store)
				}
			}
		}
	}
}

// A byte is changed modulo 256, so by 0, and by 256, it is not.
func TestBringPkgWithAByteAsItIs(t *testing.T) {
	for _, w := range toldWorlds(t) {
		for at := range len(wantText(w.Pkgs[0])) {
			for _, more := range append([]int{0, 256, -256, 512, 1 << 20, -1 << 40, 1, 255, 257, -255}, farNumbers...) {
				got := checkHappen(t, w, bringSpoilt(0, at, more))
				if asItIs := at < 2 || more%256 == 0; asItIs != samePkgs(got.Store, w.Pkgs) {
					t.Errorf("%v with %d more at %d: %v is kept", w.Pkgs, more, at, got.Store)
				}
			}
		}
	}
}

// A byte that makes another package is found out, even if that is ok, and whatever else was published.
func TestBringPkgWithAByteOfAnotherOne(t *testing.T) {
	w := checkHappenAll(t, emptyWorld(), append(publishAll(t, "a1 0:1", "a2 0:1", "b1 0:1", "b2 0:1 c1"), index())...)
	w = checkHappen(t, w, bringIndex(w.Indexes[0]))
	for place, p := range w.Pkgs {
		text, others := wantText(p), 0
		for at := 2; at < len(text); at++ {
			for more := 1; more < 256; more++ {
				if isPkgText(spoilt(text, at, more)) {
					others++
				}
				checkNothing(t, w, bringSpoilt(place, at, more))
			}
		}
		if others < 14 {
			t.Errorf("of %q there are just %d others", text, others)
		}
	}
}

// P86
func TestBringPkgSpoiltBehindSync(t *testing.T) {
	for i, w := range playedWorlds(t) {
		if i%3 > 0 {
			continue
		}
		w = checkSync(t, w)
		bare := w
		bare.Store = nil
		for place, p := range w.Pkgs {
			for at := 2; at < len(wantText(p)); at++ {
				checkNothing(t, w, bringSpoilt(place, at, 1+(i+place)%255))
				checkNothing(t, bare, bringSpoilt(place, at, 1+(i*7+place)%255))
				checkNothing(t, bare, bringSpoilt(place, at, 10-i%2*20))
			}
		}
	}
}

// P86: each byte, changed into each other one.
func TestBringPkgSpoiltInAllWays(t *testing.T) {
	w := checkSync(t, startOf(publishAll(t, "a3 0:1 4:7 b1 c2", "b1 1:3", "c5", "d2 2:0 a1")...).world())
	bare := w
	bare.Store = nil
	for place, p := range w.Pkgs {
		for at := 2; at < len(wantText(p)); at++ {
			for more := 1; more < 256; more++ {
				checkNothing(t, w, bringSpoilt(place, at, more))
				checkNothing(t, bare, bringSpoilt(place, at, more))
			}
		}
		if got := checkHappen(t, bare, bringSpoilt(place, 2, 256)); !samePkgs(got.Store, []impl.Pkg{p}) {
			t.Errorf("of %v as it is %v is kept", p, got.Store)
		}
	}
}

// An index that was published just by hand may tell of what was not; no play comes to that. The chapter asks just the index, so what it tells of is kept.
func TestBringPkgOfWhichJustAnIndexTells(t *testing.T) {
	w := emptyWorld()
	w.Pkgs = readAll(t, "a1 0:1")
	w.Indexes = []impl.SigIndex{{Index: wantIndex(1, 6, readAll(t, "a1 0:2")), By: []int{1, 2}}}
	w.Trust = trusting(w.Trust.Root, w.Indexes[0].Index)
	checkWorldOk(t, w, true)
	checkNothing(t, w, bringPkg(0))
	checkNothing(t, w, bringSpoilt(0, 5, 2))
	if got := checkChange(t, w, bringSpoilt(0, 5, 1)); !samePkgs(got.Store, readAll(t, "a1 0:2")) {
		t.Errorf("%v is kept", got.Store)
	}
}
