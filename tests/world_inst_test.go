package tests

import (
	"slices"
	"testing"

	"loop.example/purser/impl"
)

// keptWorld has all of four packages kept, and nothing in: b needs a, d needs b and c.
func keptWorld(t *testing.T) impl.World {
	t.Helper()
	return startOf(publishAll(t, "a2 0:1 3:4", "b1 1:3 a1", "c1 2:5", "d1 5:9 b1 c1")...).then(index()).brought().world()
}

// checkDisk asks that what happens changes just the disk, and tells the world.
func checkDisk(t *testing.T, w impl.World, e impl.Event) impl.World {
	t.Helper()
	got := checkHappen(t, w, e)
	disk := got.Disk
	got.Disk = w.Disk
	if !sameWorld(got, w) {
		t.Errorf("WorldDo(%v, %v) = %v, in which more than the disk changed", w, e, got)
	}
	got.Disk = disk
	return got
}

// checkIn asks which packages are in, and that the disk is true.
func checkIn(t *testing.T, w impl.World, texts ...string) {
	t.Helper()
	if !sameDisk(w.Disk, holding(readAll(t, texts...))) {
		t.Errorf("on the disk %v there is not %q alone", w.Disk, texts)
	}
}

func TestPutInByHand(t *testing.T) {
	w := checkDisk(t, keptWorld(t), putIn(3))
	checkIn(t, w, "c1 2:5")
	w = checkDisk(t, w, putIn(2))
	checkIn(t, w, "a2 0:1 3:4", "b1 1:3 a1", "c1 2:5")
	w = checkDisk(t, w, putIn(4))
	checkIn(t, w, "a2 0:1 3:4", "b1 1:3 a1", "c1 2:5", "d1 5:9 b1 c1")
}

// P87, P80: a name that there is none of, or of which none is kept, and a fall below 0 steps.
func TestPutInNothing(t *testing.T) {
	w := keptWorld(t)
	for _, n := range append([]int{-2, -1, 0, 5, 6}, farNumbers...) {
		checkNothing(t, w, putIn(n))
	}
	for _, n := range []int{-1, -2, farNumbers[0], farNumbers[2]} {
		for name := range 5 {
			checkNothing(t, w, fallIn(name, fall{n, true}))
			checkNothing(t, w, fallIn(name, fall{n, false}))
		}
	}
	w.Store = withoutPkg(w.Store, 0)
	for _, name := range []int{1, 2, 4} {
		checkNothing(t, w, putIn(name))
	}
	checkIn(t, checkDisk(t, w, putIn(3)), "c1 2:5")
	w.Store = nil
	for name := range 6 {
		checkNothing(t, w, putIn(name))
	}
}

func TestPutInTwoWithOnePlace(t *testing.T) {
	w := startOf(publishAll(t, "a1 0:1", "b1 0:2")...).then(index()).brought().world()
	for name, text := range []string{"a1 0:1", "b1 0:2"} {
		in := checkDisk(t, w, putIn(name+1))
		checkIn(t, in, text)
		checkNothing(t, in, putIn(2-name))
	}
}

// Behind its time an index counts no more, and without one nothing is put in; elder packages stay in.
func TestPutInBehindTheTimeOfTheIndex(t *testing.T) {
	w := keptWorld(t)
	for now := range 12 {
		for name := 1; name <= 4; name++ {
			if got := checkDisk(t, w, putIn(name)); (len(got.Disk.Db) > 0) != (now <= 6) {
				t.Errorf("at %d there is in %v", now, got.Disk.Db)
			}
		}
		w = checkHappen(t, w, impl.Event{Kind: evTick})
	}
	w = checkHappenAll(t, keptWorld(t), append([]impl.Event{putIn(2)}, tick(7)...)...)
	checkNothing(t, w, putIn(4))
	checkNothing(t, w, putIn(2))
	checkIn(t, w, "a2 0:1 3:4", "b1 1:3 a1")
	w.Trust, w.Store = noIndex(), nil
	checkNothing(t, w, putIn(2))
}

// At the end of time an index that counts up to then counts for ever.
func TestPutInAtTheEndOfTime(t *testing.T) {
	w := startOf(slices.Concat(tick(55), publishAll(t, "a1 0:1"), []impl.Event{index()})...).brought().world()
	for now := 55; now < 65; now++ {
		checkIn(t, checkDisk(t, w, putIn(1)), "a1 0:1")
		w = checkHappen(t, w, impl.Event{Kind: evTick})
	}
}

// With a journal there nothing is put in, be it of nothing.
func TestPutInWithAJournal(t *testing.T) {
	w := keptWorld(t)
	for _, first := range []int{2, 3} {
		for cut := 1; cut < 5; cut++ {
			for _, torn := range []bool{false, true} {
				fallen := checkDisk(t, w, fallIn(first, fall{cut, torn}))
				if !fallen.Disk.Has {
					continue
				}
				for name := 1; name <= 4; name++ {
					checkNothing(t, fallen, putIn(name))
					checkNothing(t, fallen, fallIn(name, fall{cut, torn}))
				}
			}
		}
	}
	w.Disk = withJournal(w.Disk, nil)
	for name := 1; name <= 4; name++ {
		checkNothing(t, w, putIn(name))
	}
	checkIn(t, checkDisk(t, w, mendAll()))
}

// What is on a disk that is not true, without a journal, is put in by no steps.
func TestPutInOnADiskThatIsNotTrue(t *testing.T) {
	w := keptWorld(t)
	for _, d := range []impl.Disk{withFile(holding(nil), 4, 4), withFile(holding(nil), 0, dataTorn), {Db: w.Store[:1], Files: wantFiles(nil)}} {
		w.Disk = d
		checkWorldOk(t, w, true)
		for name := 1; name <= 4; name++ {
			checkNothing(t, w, putIn(name))
			checkNothing(t, w, fallIn(name, fall{0, true}))
		}
	}
}

// P80: d1 and all that it needs are put in by eight steps: a journal, five places, the packages, and its end.
func TestFallByHand(t *testing.T) {
	w := keptWorld(t)
	whole := checkDisk(t, w, putIn(4))
	for _, at := range fallenAt(8) {
		fallen := checkDisk(t, w, fallIn(4, at))
		if fallen.Disk.Has != (0 < at.cut && at.cut < 8) || len(fallen.Disk.Db) > 0 != (at.cut > 6) {
			t.Errorf("fallen at %v there is %v", at, fallen.Disk)
		}
		if torn := slices.Contains(fallen.Disk.Files, dataTorn); torn != (at.torn && 0 < at.cut && at.cut < 6) {
			t.Errorf("fallen at %v there is %v", at, fallen.Disk)
		}
		want := whole
		if at.cut == 0 {
			want = w
		}
		if got := checkDisk(t, fallen, mendAll()); !sameWorld(got, want) {
			t.Errorf("fallen at %v, and mended, there is %v, want %v", at, got.Disk, want.Disk)
		}
	}
}

// P80: in worlds of all kinds, of each name, at each step.
func TestFallInAnyWorld(t *testing.T) {
	for _, w := range mendedWorlds(t) {
		for name := 1; name <= 4; name++ {
			whole := checkDisk(t, w, putIn(name))
			for _, at := range fallenAt(len(wantSteps(w.Disk, whole.Disk.Db))) {
				want := whole
				if at.cut == 0 {
					want = w
				}
				if got := checkDisk(t, checkDisk(t, w, fallIn(name, at)), mendAll()); !sameWorld(got, want) {
					t.Errorf("%d put in in %v, fallen at %v, and mended: %v, want %v", name, w, at, got.Disk, want.Disk)
				}
			}
		}
	}
}

// P79, P80: a fall, and falls while one mends, once, and once more.
func TestFallWhileOneMends(t *testing.T) {
	w := keptWorld(t)
	whole := checkDisk(t, w, putIn(4))
	for _, at := range fallenAt(8) {
		fallen := checkDisk(t, w, fallIn(4, at))
		want := whole
		if at.cut == 0 {
			want = w
		}
		for _, first := range fallenAt(len(wantMends(fallen.Disk))) {
			once := checkDisk(t, fallen, fallMending(first))
			for _, second := range fallenAt(len(wantMends(once.Disk))) {
				if got := checkDisk(t, checkDisk(t, once, fallMending(second)), mendAll()); !sameWorld(got, want) {
					t.Errorf("fallen at %v, %v, and %v, and mended: %v, want %v", at, first, second, got.Disk, want.Disk)
				}
			}
		}
	}
}

// P79
func TestMendInAnyWorld(t *testing.T) {
	for _, w := range playedWorlds(t) {
		got := checkDisk(t, w, mendAll())
		checkDiskTrue(t, got.Disk, true)
		if !samePkgs(got.Disk.Db, toBe(w)) || !isTogether(toBe(w)) {
			t.Errorf("%v mended is %v, want %v in", w.Disk, got.Disk, toBe(w))
		}
		for _, at := range fallenAt(len(wantMends(w.Disk))) {
			if again := checkDisk(t, checkDisk(t, w, fallMending(at)), mendAll()); !sameWorld(again, got) {
				t.Errorf("%v mended, fallen at %v, and mended: %v", w.Disk, at, again.Disk)
			}
		}
	}
}

// Below 0 steps nothing is mended; without a journal there is nothing to mend, true or not.
func TestMendNothing(t *testing.T) {
	fallen := checkDisk(t, keptWorld(t), fallIn(4, fall{3, false}))
	for _, n := range []int{-1, -2, farNumbers[0], farNumbers[2]} {
		checkNothing(t, fallen, fallMending(fall{n, false}))
		checkNothing(t, fallen, fallMending(fall{n, true}))
	}
	checkNothing(t, fallen, fallMending(fall{0, false}))
	checkChange(t, fallen, fallMending(fall{0, true}))
	w := checkDisk(t, fallen, fallMending(fall{farNumbers[9], true}))
	if !sameDisk(w.Disk, checkDisk(t, fallen, mendAll()).Disk) {
		t.Errorf("mended by as many steps as there may be: %v", w.Disk)
	}
	for _, d := range []impl.Disk{w.Disk, holding(nil), withFile(w.Disk, 4, 4), withFile(w.Disk, 0, dataTorn)} {
		w.Disk = d
		for _, at := range fallenAt(3) {
			checkNothing(t, w, fallMending(at))
		}
	}
}

// P94
func TestPutInTwice(t *testing.T) {
	for _, w := range mendedWorlds(t) {
		for name := 1; name <= 4; name++ {
			checkNothing(t, checkDisk(t, w, putIn(name)), putIn(name))
		}
	}
}

// P83
func TestPutInLater(t *testing.T) {
	for _, w := range mendedWorlds(t) {
		late := checkHappenAll(t, w, tick(7)...)
		for name := 1; name <= 4; name++ {
			if late.Now < 60 {
				checkNothing(t, late, putIn(name))
				checkNothing(t, late, fallIn(name, fall{2, true}))
			}
			checkDisk(t, late, putIn(name))
		}
	}
}

// P83: what is not fetched may change in that time.
func TestPutInLaterThanWhatIsPublished(t *testing.T) {
	for _, w := range mendedWorlds(t) {
		late := checkHappenAll(t, w, slices.Concat(tick(3), publishAll(t, "d5 0:1"), []impl.Event{index()}, tick(4), []impl.Event{publishRoot(1, 5), index(), mendAll()})...)
		for name := 1; name <= 4; name++ {
			if late.Now < 60 {
				checkNothing(t, late, putIn(name))
			}
		}
	}
}

// A fall leaves of each world what InstTo leaves of its disk, whatever the disk is.
func TestFallInHandWorlds(t *testing.T) {
	for i, w := range fullWorlds(t) {
		for _, at := range fallenAt(9) {
			checkDisk(t, w, fallIn(1+i%4, at))
			checkDisk(t, w, fallMending(at))
		}
	}
}
