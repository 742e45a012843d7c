package tests

import (
	"slices"
	"testing"

	"loop.example/purser/impl"
)

// checkPublished asks that nothing that is fetched changes, and tells the world.
func checkPublished(t *testing.T, w impl.World, e impl.Event) impl.World {
	t.Helper()
	got := checkHappen(t, w, e)
	if !sameFetched(got, w) || got.Now != w.Now || !slices.Equal(got.Bad, w.Bad) {
		t.Errorf("WorldDo(%v, %v) = %v, in which more changed than what is published", w, e, got)
	}
	return got
}

func checkPkgs(t *testing.T, w impl.World, texts ...string) {
	t.Helper()
	if !samePkgs(w.Pkgs, readAll(t, texts...)) {
		t.Errorf("of %v the packages are not %q", w, texts)
	}
}

// P88: in order, whatever comes first.
func TestPublishByHand(t *testing.T) {
	w := emptyWorld()
	for _, e := range publishAll(t, "c1 d1", "a2", "d5 0:1 1:2", "a1 0:1", "b3 a1", "a5") {
		w = checkPublished(t, w, e)
	}
	checkPkgs(t, w, "a1 0:1", "a2", "a5", "b3 a1", "c1 d1", "d5 0:1 1:2")
}

// P87: with the same files, and with others, ahead of and behind others.
func TestPublishTwice(t *testing.T) {
	w := emptyWorld()
	for _, e := range publishAll(t, "b2 0:1", "a1", "d5 a1") {
		w = checkChange(t, w, e)
	}
	for _, e := range publishAll(t, "b2 0:1", "b2", "b2 0:2", "b2 0:1 a1", "a1", "a1 5:9", "a1 b2", "d5 a1", "d5") {
		checkNothing(t, w, e)
	}
	checkPkgs(t, checkHappenAll(t, w, publishAll(t, "b1", "b3", "a2", "d4")...), "a1", "a2", "b1", "b2 0:1", "b3", "d4", "d5 a1")
}

// P88: there may be eight.
func TestPublishAsManyAsThereMayBe(t *testing.T) {
	for _, places := range []uint{0xff, 0xff000, 0x55555 & 0xffff, 0x8421f & 0xfffff} {
		w := emptyWorld()
		for i, p := range mixed(places, 0x2f1b7) {
			w = checkPublished(t, w, publish(p))
			if len(w.Pkgs) != min(i+1, 8) {
				t.Errorf("behind %d packages there are %d", i+1, len(w.Pkgs))
			}
		}
		for _, list := range twins() {
			for _, p := range list {
				if len(w.Pkgs) == 8 {
					checkNothing(t, w, publish(p))
				}
			}
		}
	}
}

// P88: each package that is ok, into worlds of all kinds.
func TestPublishInAnyWorld(t *testing.T) {
	list := somePkgs()
	for i, w := range append(playedWorlds(t), fullWorlds(t)...) {
		p := list[i%len(list)]
		got := checkPublished(t, w, publish(p))
		isNew := !slices.ContainsFunc(w.Pkgs, atPlace(p.Name, p.Ver)) && len(w.Pkgs) < 8
		if isNew != (len(got.Pkgs) == len(w.Pkgs)+1) || isNew && !isAmong([]impl.Pkg{p}, got.Pkgs) || !isAmong(w.Pkgs, got.Pkgs) {
			t.Errorf("%v published in %v: %v", p, w, got)
		}
	}
}

func TestPublishWhatIsNotOk(t *testing.T) {
	for _, w := range []impl.World{emptyWorld(), fullWorld(t)} {
		for _, p := range oddPkgs() {
			checkNothing(t, w, publish(p))
		}
		for _, n := range append([]int{-1, 0, 5, 6}, farNumbers...) {
			checkNothing(t, w, publish(impl.Pkg{Name: n, Ver: 4}))
			if n != 5 {
				checkNothing(t, w, publish(impl.Pkg{Name: 4, Ver: n}))
			}
		}
	}
}

// P88
func TestIndexByHand(t *testing.T) {
	w := checkHappenAll(t, emptyWorld(), publishAll(t, "b1 0:1", "a1")...)
	w = checkPublished(t, checkHappenAll(t, w, tick(2)...), index())
	want := impl.Index{Num: 1, Until: 8, Metas: []impl.Meta{{Name: 1, Ver: 1, Sum: 9815}, {Name: 2, Ver: 1, Sum: wantSum("b1 0:1")}}}
	if len(w.Indexes) != 1 || !sameSigIndex(w.Indexes[0], impl.SigIndex{Index: want, By: []int{1, 2, 3}}) {
		t.Errorf("of %v the index is not %v", w, want)
	}
	w = checkPublished(t, checkHappenAll(t, w, publishRoot(2, 1, 2, 5)), index())
	want.Num = 2
	if len(w.Indexes) != 2 || !sameSigIndex(w.Indexes[1], impl.SigIndex{Index: want, By: []int{1, 2, 5}}) {
		t.Errorf("of %v the index is not %v", w, want)
	}
}

// P88: it counts six times long, but no longer than time.
func TestIndexNearTheEndOfTime(t *testing.T) {
	w := emptyWorld()
	for now := range 61 {
		x := lastOf(checkPublished(t, w, index()).Indexes).Index
		if x.Until != min(now+6, 60) {
			t.Errorf("at %d the index is %v", now, x)
		}
		w = checkHappen(t, w, impl.Event{Kind: evTick})
	}
}

// P88: there may be thirty.
func TestIndexesAsManyAsThereMayBe(t *testing.T) {
	w := emptyWorld()
	for num := 1; num <= 30; num++ {
		w = checkPublished(t, w, index())
		if len(w.Indexes) != num || lastOf(w.Indexes).Index.Num != num {
			t.Errorf("behind %d indexes there are %v", num, w.Indexes)
		}
	}
	checkNothing(t, w, index())
	checkNothing(t, checkHappenAll(t, w, publishAll(t, "a1")...), index())
}

// P88
func TestIndexInAnyWorld(t *testing.T) {
	for _, w := range append(playedWorlds(t), fullWorlds(t)...) {
		got := checkPublished(t, w, index())
		if len(w.Indexes) == 30 {
			continue
		}
		x := lastOf(got.Indexes)
		if len(got.Indexes) != len(w.Indexes)+1 || x.Index.Until != min(w.Now+6, 60) || !slices.Equal(x.By, lastOf(w.Roots).Root.Keys) {
			t.Errorf("of %v the new index is %v", w, x)
		}
		for _, p := range w.Pkgs {
			if !wantHas(x.Index, wantText(p)) {
				t.Errorf("%v does not tell of %v", x, p)
			}
		}
	}
}

func TestRootByHand(t *testing.T) {
	w := checkPublished(t, emptyWorld(), publishRoot(1, 2, 5))
	want := impl.SigRoot{Root: impl.Root{Num: 2, Keys: []int{2, 5}, Need: 1}, By: []int{1, 2, 3, 5}}
	if len(w.Roots) != 2 || !sameSigRoot(w.Roots[1], want) {
		t.Errorf("of %v the root is not %v", w, want)
	}
	// Whoever is said to sign, and whatever its number is said to be, counts for nothing.
	for _, n := range append([]int{-1, 0, 1, 3, 9, 10}, farNumbers...) {
		e := impl.Event{Kind: evRoot, Root: impl.SigRoot{Root: impl.Root{Num: n, Keys: []int{4, 6}, Need: 2}, By: []int{n}}}
		got := checkPublished(t, w, e)
		if !sameSigRoot(lastOf(got.Roots), impl.SigRoot{Root: impl.Root{Num: 3, Keys: []int{4, 6}, Need: 2}, By: []int{2, 4, 5, 6}}) {
			t.Errorf("of the number %d the root is %v", n, got.Roots)
		}
	}
}

// Of all roots just those are published of which the bad keys are fewer than they need.
func TestRootOfAllKeys(t *testing.T) {
	for _, bad := range [][]int{nil, {3}, {1, 6}, {2, 4, 5}, {1, 2, 4, 5, 6}} {
		w, ok := wantNew(impl.Root{Num: 1, Keys: []int{1, 2, 3, 4, 5, 6}, Need: 6}, bad)
		if !ok {
			t.Fatalf("there is no world of the bad keys %v", bad)
		}
		for _, r := range rootsOf(1) {
			got := checkPublished(t, w, publishRoot(r.Need, r.Keys...))
			if (len(got.Roots) == 2) != (wantBoth(r.Keys, bad) < r.Need) {
				t.Errorf("%v published in spite of %v: %v", r, bad, got.Roots)
			}
		}
	}
}

func TestRootWhichIsNotOk(t *testing.T) {
	for _, w := range []impl.World{emptyWorld(), fullWorld(t)} {
		for _, r := range oddRoots() {
			if !isRoot(impl.Root{Num: 2, Keys: r.Keys, Need: r.Need}) {
				checkNothing(t, w, publishRoot(r.Need, r.Keys...))
			}
		}
		checkNothing(t, w, impl.Event{Kind: evRoot})
		// By is not what is published.
		checkNothing(t, w, impl.Event{Kind: evRoot, Root: impl.SigRoot{By: []int{1, 2}}, Index: impl.SigIndex{By: []int{1, 2}}})
	}
}

// There may be nine.
func TestRootsAsManyAsThereMayBe(t *testing.T) {
	w := emptyWorld()
	for num := 2; num <= 9; num++ {
		w = checkPublished(t, w, publishRoot(1+num%2, 1, 2, 4+num%3))
		if len(w.Roots) != num || lastOf(w.Roots).Root.Num != num {
			t.Errorf("behind %d roots there are %v", num, w.Roots)
		}
	}
	checkNothing(t, w, publishRoot(1, 1))
	checkNothing(t, w, publishRoot(2, 1, 2, 3))
}

// P93: each may come behind the one ahead, and bad keys sign none.
func TestRootInAnyWorld(t *testing.T) {
	roots := rootsOf(1)
	for i, w := range append(playedWorlds(t), fullWorlds(t)...) {
		r := roots[i*5%len(roots)]
		got := checkPublished(t, w, publishRoot(r.Need, r.Keys...))
		if len(got.Roots) > len(w.Roots) && (!wantNext(lastOf(w.Roots).Root, lastOf(got.Roots)) || wantSigned(lastOf(got.Roots).Root, w.Bad)) {
			t.Errorf("behind %v comes %v in spite of %v", w.Roots, lastOf(got.Roots), w.Bad)
		}
	}
}

func TestTickByHand(t *testing.T) {
	w := emptyWorld()
	for now := 1; now <= 60; now++ {
		w = checkChange(t, w, impl.Event{Kind: evTick})
		if w.Now != now {
			t.Errorf("behind %d ticks it is %d", now, w.Now)
		}
	}
	checkNothing(t, w, impl.Event{Kind: evTick})
}

func TestTickInAnyWorld(t *testing.T) {
	for _, w := range append(playedWorlds(t), fullWorlds(t)...) {
		got := checkHappen(t, w, impl.Event{Kind: evTick})
		if got.Now != min(w.Now+1, 60) || !samePublished(got, w) || !sameFetched(got, w) {
			t.Errorf("a tick in %v: %v", w, got)
		}
	}
}

// P87
func TestEventsOfNoKind(t *testing.T) {
	full, x := fullWorld(t), impl.Event{Pkg: impl.Pkg{Name: 4, Ver: 4}, Root: impl.SigRoot{Root: impl.Root{Keys: []int{1}, Need: 1}}}
	for _, kind := range append([]int{-9, -8, -7, -6, -5, -4, -3, -2, -1, 0, 10, 11, 16, 17, 256}, farNumbers...) {
		for _, w := range []impl.World{emptyWorld(), full} {
			e := x
			e.Kind, e.A, e.B = kind, 1, 60
			checkNothing(t, w, e)
			checkMay(t, w, e, false)
			e.Root, e.Index = full.Roots[2], full.Indexes[4]
			checkNothing(t, w, e)
			checkMay(t, w, e, false)
		}
	}
}
