package tests

import (
	"slices"
	"testing"

	"loop.example/purser/impl"
)

func TestSyncByHand(t *testing.T) {
	w := checkSync(t, grownWorld(t))
	if w.Trust.Root.Num != 3 || w.Trust.Index.Num != 4 || len(w.Indexes) != 4 || !samePkgs(w.Store, w.Pkgs) || len(w.Disk.Db) > 0 {
		t.Errorf("all brought, there is %v", w)
	}
	w = checkHappenAll(t, w, putIn(3), fallIn(2, fall{3, true}))
	w = checkSync(t, w)
	checkIn(t, w, "a1 0:1", "b1 1:3 a1", "c1 2:5 d1", "d1 5:9")
	empty := checkSync(t, emptyWorld())
	if len(empty.Indexes) != 1 || empty.Trust.Index.Num != 1 || len(empty.Store) > 0 {
		t.Errorf("of nothing all brought, there is %v", empty)
	}
}

// All is mended, however many places there are to mend, also behind a fall while one mends.
func TestSyncMendsAll(t *testing.T) {
	w := startOf(publishAll(t, "a1 0:1 1:2", "b1 2:3 3:4 a1", "c1 4:5 5:6 b1")...).then(index()).brought().world()
	for _, at := range fallenAt(9) {
		fallen := checkHappen(t, w, fallIn(3, at))
		for _, e := range []impl.Event{{}, fallMending(fall{0, true}), fallMending(fall{3, true}), fallMending(fall{6, true})} {
			got := checkSync(t, checkHappen(t, fallen, e))
			if at.cut == 0 {
				checkIn(t, got)
			} else {
				checkIn(t, got, "a1 0:1 1:2", "b1 2:3 3:4 a1", "c1 4:5 5:6 b1")
			}
		}
	}
}

// P81
func TestSyncBringsAll(t *testing.T) {
	for _, w := range growing(t) {
		got := checkSync(t, w)
		checkWorldOk(t, got, true)
		if !sameRoot(got.Trust.Root, lastOf(w.Roots).Root) || got.Trust.Index.Num != len(w.Indexes)+1 || !samePkgs(got.Store, w.Pkgs) {
			t.Errorf("WorldSync(%v) = %v", w, got)
		}
		if !impl.TrustFresh(got.Trust, got.Now) || len(got.Indexes) != len(w.Indexes)+1 || !sameIndex(got.Trust.Index, lastOf(got.Indexes).Index) {
			t.Errorf("WorldSync(%v) = %v", w, got)
		}
		if got.Now != w.Now || !sameDisk(got.Disk, holding(toBe(w))) {
			t.Errorf("WorldSync(%v) = %v", w, got)
		}
	}
}

// P82
func TestSyncAndPutIn(t *testing.T) {
	for _, w := range growing(t) {
		w = checkSync(t, w)
		for name := 1; name <= 4; name++ {
			want := w.Disk
			if list, ok := wantPlan(w.Pkgs, w.Disk.Db, name); ok {
				want = holding(list)
			}
			if got := checkDisk(t, w, putIn(name)); !sameDisk(got.Disk, want) {
				t.Errorf("%d put in in %v: %v, want %v", name, w, got.Disk, want)
			}
		}
	}
}

// P90
func TestSyncTwice(t *testing.T) {
	for _, w := range growing(t) {
		once := checkSync(t, w)
		if len(once.Indexes) == 30 {
			continue
		}
		twice := checkSync(t, once)
		if !samePkgs(twice.Store, once.Store) || !sameDisk(twice.Disk, once.Disk) || !sameRoot(twice.Trust.Root, once.Trust.Root) || twice.Trust.Index.Num != once.Trust.Index.Num+1 {
			t.Errorf("WorldSync(%v) = %v", once, twice)
		}
	}
}

// P96: of what is published by then, and of a new index as much as of none.
func TestSyncOfAWorldThatFetchedNothing(t *testing.T) {
	for _, w := range growing(t) {
		w = checkHappen(t, w, mendAll())
		got, bare := checkSync(t, w), checkSync(t, unfetched(w))
		if !samePkgs(got.Store, bare.Store) || !sameTrust(got.Trust, bare.Trust) || !samePublished(got, bare) {
			t.Errorf("WorldSync(%v) = %v, but of a world that fetched nothing %v", w, got, bare)
		}
		if len(bare.Disk.Db) > 0 || bare.Disk.Has {
			t.Errorf("of a world that fetched nothing there is in %v", bare.Disk)
		}
	}
}

// P89
func TestSyncBehindAnotherRoot(t *testing.T) {
	roots := rootsOf(1)
	for i, w := range growing(t) {
		elder, r := lastOf(w.Roots).Root, roots[i*5%len(roots)]
		w = checkHappen(t, w, index())
		next := checkHappen(t, w, publishRoot(r.Need, r.Keys...))
		if len(next.Roots) == len(w.Roots) || len(next.Indexes) == 30 {
			continue
		}
		got := checkSync(t, next)
		if !sameRoot(got.Trust.Root, impl.Root{Num: elder.Num + 1, Keys: r.Keys, Need: r.Need}) {
			t.Errorf("behind %v %v is trusted", next.Roots, got.Trust)
		}
		// What was published ahead of the new root is signed by the elder one's keys alone; the root alone is brought here, so that its number is great enough.
		before := checkHappenAll(t, unfetched(next), bringAllRoots(next)...)
		taken := checkHappen(t, before, bringIndex(lastOf(next.Indexes))).Trust.Has
		if enough := wantBoth(elder.Keys, r.Keys) >= r.Need; taken != enough {
			t.Errorf("an index that %v sign is taken behind %v: %v", elder.Keys, r, taken)
		}
	}
}

// bringAllRoots are the events that bring all roots that were published.
func bringAllRoots(w impl.World) []impl.Event {
	return bringingAll(w)[:len(w.Roots)]
}

// P89: by hand, an elder root's keys are enough of the new one, or not.
func TestSyncBehindAnotherRootByHand(t *testing.T) {
	for _, c := range []struct {
		keys   []int
		need   int
		enough bool
	}{{[]int{4, 5}, 1, false}, {[]int{1, 4}, 2, false}, {[]int{1, 4}, 1, true}, {[]int{1, 2}, 2, true}, {[]int{1, 2, 3}, 3, true}, {[]int{1, 2, 3, 4}, 4, false}} {
		w := checkHappenAll(t, emptyWorld(), index(), publishRoot(c.need, c.keys...))
		elder := w.Indexes[0]
		synced := checkSync(t, w)
		if !sameRoot(synced.Trust.Root, impl.Root{Num: 2, Keys: c.keys, Need: c.need}) || synced.Trust.Index.Num != 2 {
			t.Errorf("behind the root %v %v is trusted", c, synced.Trust)
		}
		if got := checkHappenAll(t, w, bringRoot(w.Roots[1]), bringIndex(elder)); got.Trust.Has != c.enough {
			t.Errorf("behind the root %v of an index of the elder one %v is trusted", c, got.Trust)
		}
		elder.Index.Num = 3
		if _, ok := impl.TrustIndex(synced.Trust, elder, 0); ok != c.enough {
			t.Errorf("behind the root %v an index of the elder one is taken: %v", c, ok)
		}
	}
}

// With the last index that there may be no new one is published; the last one is brought, if it still counts, and is signed by enough keys.
func TestSyncWithTheLastIndex(t *testing.T) {
	w := startOf(publishAll(t, "a1 0:1")...).then(often(29, index())...).world()
	synced := checkSync(t, w)
	if len(synced.Indexes) != 30 || synced.Trust.Index.Num != 30 || len(synced.Store) != 1 {
		t.Errorf("the last index is not brought: %v", synced)
	}
	again := checkSync(t, synced)
	if !sameWorld(again, synced) {
		t.Errorf("WorldSync(%v) = %v", synced, again)
	}
	late := checkHappenAll(t, unfetched(synced), tick(6)...)
	if got := checkSync(t, late); got.Trust.Index.Num != 30 || len(got.Store) != 1 {
		t.Errorf("the last index is not brought at its end: %v", got)
	}
	if got := checkSync(t, checkHappenAll(t, late, tick(1)...)); got.Trust.Has || len(got.Store) > 0 {
		t.Errorf("the last index is brought behind its end: %v", got)
	}
	if got := checkSync(t, checkHappenAll(t, unfetched(synced), publishRoot(1, 5))); got.Trust.Has || got.Trust.Root.Num != 2 {
		t.Errorf("the last index is brought behind another root: %v", got)
	}
	if got := checkSync(t, checkHappenAll(t, synced, publishAll(t, "b1")...)); len(got.Pkgs) != 2 || len(got.Store) != 1 {
		t.Errorf("of %v there is kept %v", got.Pkgs, got.Store)
	}
}

// At the end of time a new index counts, too.
func TestSyncAtTheEndOfTime(t *testing.T) {
	w := startOf(publishAll(t, "a1 0:1")...).then(tick(59)...).world()
	for range 3 {
		w = checkHappen(t, w, impl.Event{Kind: evTick})
		w = checkSync(t, w)
		if w.Now != 60 || w.Trust.Index.Until != 60 || len(w.Store) != 1 {
			t.Errorf("at the end of time there is %v", w)
		}
	}
	checkIn(t, checkDisk(t, w, putIn(1)), "a1 0:1")
}

// Worlds that no play comes to: roots that are signed by others, indexes that tell of less, and disks that are not true.
func TestSyncInHandWorlds(t *testing.T) {
	for _, w := range fullWorlds(t) {
		got := checkSync(t, w)
		checkWorldOk(t, got, true)
		if got.Trust.Root.Num != 3 || got.Trust.Index.Num != 6 || !samePkgs(got.Store, w.Pkgs) || got.Disk.Has {
			t.Errorf("WorldSync(%v) = %v", w, got)
		}
	}
}

// WorldSync is its events, one behind the other.
func TestSyncIsItsEvents(t *testing.T) {
	for _, w := range append(playedWorlds(t), fullWorlds(t)...) {
		step := checkHappenAll(t, w, mendAll(), index())
		step = checkHappenAll(t, step, bringingAll(step)...)
		if got := checkSync(t, w); !sameWorld(got, step) {
			t.Errorf("WorldSync(%v) = %v, want %v", w, got, step)
		}
	}
	if !slices.Equal(kindsOfEvents(bringingAll(grownWorld(t))), []int{evBringRoot, evBringRoot, evBringRoot, evBringIndex, evBringPkg, evBringPkg, evBringPkg, evBringPkg}) {
		t.Errorf("all is brought by %v", bringingAll(grownWorld(t)))
	}
}

func kindsOfEvents(events []impl.Event) []int {
	out := []int{}
	for _, e := range events {
		out = append(out, e.Kind)
	}
	return out
}
