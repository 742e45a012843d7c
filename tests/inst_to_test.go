package tests

import (
	"math"
	"math/rand"
	"slices"
	"testing"

	"loop.example/purser/impl"
)

func TestInstToByHand(t *testing.T) {
	a, b := readAll(t, "a1 0:1 3:4"), readAll(t, "b2 3:5")
	was := impl.Disk{Db: b, Files: []int{-1, -1, -1, 5, -1, -1}}
	steps := impl.InstSteps(was, a)
	for _, c := range []struct {
		at   fall
		want impl.Disk
	}{
		{fall{0, false}, was},
		{fall{0, true}, was},
		{fall{1, false}, withJournal(was, a)},
		{fall{1, true}, impl.Disk{Db: b, Files: []int{-2, -1, -1, 5, -1, -1}, Has: true, Jour: a}},
		{fall{2, false}, impl.Disk{Db: b, Files: []int{1, -1, -1, 5, -1, -1}, Has: true, Jour: a}},
		{fall{2, true}, impl.Disk{Db: b, Files: []int{1, -1, -1, -2, -1, -1}, Has: true, Jour: a}},
		{fall{3, false}, impl.Disk{Db: b, Files: []int{1, -1, -1, 4, -1, -1}, Has: true, Jour: a}},
		{fall{3, true}, impl.Disk{Files: []int{1, -1, -1, 4, -1, -1}, Has: true, Jour: a}},
		{fall{4, false}, withJournal(holding(a), a)},
		{fall{4, true}, withJournal(holding(a), a)},
		{fall{5, false}, holding(a)},
		{fall{5, true}, holding(a)},
		{fall{6, false}, holding(a)},
		{fall{6, true}, holding(a)},
		{fall{math.MaxInt, false}, holding(a)},
		{fall{math.MaxInt, true}, holding(a)},
	} {
		if got := checkTo(t, was, steps, c.at, true); !sameDisk(got, c.want) {
			t.Errorf("behind a fall at %v there is %v, want %v", c.at, got, c.want)
		}
	}
}

// stepLists are steps of any kinds in any order, none to many, those of a journal among them.
func stepLists(t *testing.T) [][]impl.Step {
	t.Helper()
	r, all, others := rand.New(rand.NewSource(68)), someSteps(t), otherSteps(t)
	out := [][]impl.Step{nil, {}}
	for _, s := range fewSteps(t) {
		out = append(out, []impl.Step{s})
	}
	for n := range 120 {
		steps := []impl.Step{}
		for range 2 + n%12 {
			from := all
			if r.Intn(2) == 0 {
				from = others
			}
			steps = append(steps, from[r.Intn(len(from))])
		}
		out = append(out, cloneSteps(steps))
	}
	return out
}

// P68: any steps on any disk, not just those that put packages in.
func TestInstToIsDiskDoOfEach(t *testing.T) {
	disks := fewDisks(t)
	for i, steps := range stepLists(t) {
		for j := range 5 {
			d := disks[(i*5+j*17)%len(disks)]
			for _, at := range fallenAt(len(steps)) {
				want := d
				for _, s := range steps[:min(at.cut, len(steps))] {
					want = checkDo(t, want, s, true)
				}
				if at.torn && at.cut < len(steps) {
					want = checkTear(t, want, steps[at.cut], true)
				}
				if got := checkTo(t, d, steps, at, true); !sameDisk(got, want) {
					t.Errorf("InstTo(%v, %v, %v) = %v, want %v", d, steps, at, got, want)
				}
			}
		}
	}
}

// P68: in two parts it is as in one.
func TestInstToInTwoParts(t *testing.T) {
	disks := fewDisks(t)
	for i, steps := range stepLists(t) {
		d := disks[i*11%len(disks)]
		all := checkAll(t, d, steps)
		for cut := range len(steps) + 1 {
			first := checkTo(t, d, steps, fall{cut: cut}, true)
			if got := checkAll(t, first, steps[cut:]); !sameDisk(got, all) {
				t.Errorf("%v on %v in two parts, cut at %d, leave %v, not %v", steps, d, cut, got, all)
			}
		}
	}
}

// P72
func TestInstToOfNoSteps(t *testing.T) {
	room := []impl.Step{{Kind: kindDb}, {Kind: kindDone}}
	for _, d := range append(fewDisks(t), impl.DiskNew()) {
		for _, steps := range [][]impl.Step{nil, {}, room[:0]} {
			for _, at := range append(fallenAt(0), fall{math.MaxInt, false}, fall{math.MaxInt, true}, fall{1000, true}) {
				if got := checkTo(t, d, steps, at, true); !sameDisk(got, d) {
					t.Errorf("InstTo(%v, none, %v) = %v", d, at, got)
				}
			}
		}
	}
}

// P72
func TestInstToBehindNoneAndBehindMoreThanThereAre(t *testing.T) {
	disks := fewDisks(t)
	for i, steps := range stepLists(t) {
		d := disks[i*7%len(disks)]
		if got := checkTo(t, d, steps, fall{0, false}, true); !sameDisk(got, d) {
			t.Errorf("behind none of %v on %v there is %v", steps, d, got)
		}
		all := checkAll(t, d, steps)
		for _, more := range []int{0, 1, 2, 60, 1000} {
			for _, torn := range []bool{false, true} {
				if got := checkTo(t, d, steps, fall{len(steps) + more, torn}, true); !sameDisk(got, all) {
					t.Errorf("behind %d more than all of %v on %v there is %v, not %v", more, steps, d, got, all)
				}
			}
		}
		for _, far := range farNumbers {
			checkTo(t, d, steps, fall{far, i%2 == 0}, far >= 0)
		}
	}
}

func TestInstToCutBelowNone(t *testing.T) {
	disks := fewDisks(t)
	for i, steps := range stepLists(t) {
		d := disks[i*13%len(disks)]
		for _, cut := range []int{-1, -2, -len(steps) - 1, -60, math.MinInt + 1, math.MinInt} {
			for _, torn := range []bool{false, true} {
				if got := checkTo(t, d, steps, fall{cut, torn}, false); !sameDisk(got, impl.Disk{}) {
					t.Errorf("InstTo(%v, %v, %d, %v) = %v, not nothing", d, steps, cut, torn, got)
				}
			}
		}
	}
}

func TestInstToOnAnOddDisk(t *testing.T) {
	lists := stepLists(t)
	for i, d := range oddDisks(t) {
		checkNoDisk(t, d, nil)
		if steps := lists[i%len(lists)]; len(steps) < 8 {
			checkNoDisk(t, d, steps)
		}
	}
}

// One of all that is none makes it false, ahead of the cut, at it, and behind it.
func TestInstToOfAStepThatIsNone(t *testing.T) {
	disks, lists := fewDisks(t), stepLists(t)
	for i, odd := range oddSteps(t) {
		d := disks[i*5%len(disks)]
		checkNoDisk(t, d, []impl.Step{odd})
		if steps := lists[i%len(lists)]; len(steps) < 6 {
			checkNoDisk(t, d, slices.Insert(slices.Clone(steps), i%(len(steps)+1), odd))
		}
	}
}

// Each kind of step that is none, at each place among those that put packages in.
func TestInstToOfAStepThatIsNoneAtEachPlace(t *testing.T) {
	full := fullLists(t)
	d := holding(full[0])
	steps := impl.InstSteps(d, full[1])
	for _, odd := range []impl.Step{
		{}, {Kind: 5}, {Kind: -1}, {Kind: kindFile, Path: 6}, {Kind: kindFile, Path: -1}, {Kind: kindFile, Data: dataTorn}, {Kind: kindFile, Data: 10},
		{Kind: kindFile, Pkgs: full[0]}, {Kind: kindJour, Path: 1}, {Kind: kindDb, Data: 1}, {Kind: kindDone, Pkgs: full[0]},
		{Kind: kindJour, Pkgs: full[0][2:]}, {Kind: kindDb, Pkgs: readAll(t, "a1", "a2")}, {Kind: kindDb, Pkgs: readAll(t, "a1 0:1", "b1 0:1")},
	} {
		for place := range len(steps) + 1 {
			checkNoDisk(t, d, slices.Insert(slices.Clone(steps), place, odd))
			if place < len(steps) {
				instead := slices.Clone(steps)
				instead[place] = odd
				checkNoDisk(t, d, instead)
			}
		}
	}
}

// Steps that are many more than those that put anything in.
func TestInstToOfManySteps(t *testing.T) {
	steps := []impl.Step{}
	for i := range 3000 {
		steps = append(steps, impl.Step{Kind: kindFile, Path: i % 6, Data: i % 10})
	}
	for _, cut := range []int{0, 1, 9, 10, 2999, 3000, 3001} {
		checkTo(t, impl.DiskNew(), steps, fall{cut, cut%2 > 0}, true)
	}
	steps[2999].Path = 6
	checkTo(t, impl.DiskNew(), steps, fall{cut: 5}, false)
}
