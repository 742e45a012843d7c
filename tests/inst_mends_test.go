package tests

import (
	"slices"
	"testing"

	"loop.example/purser/impl"
)

func TestInstMendsByHand(t *testing.T) {
	a, ab := readAll(t, "a1 0:1 3:4"), readAll(t, "a2 0:1 2:0 b1", "b1 5:9")
	torn := []int{1, -1, -2, 7, -1, -1}
	for _, c := range []struct {
		disk impl.Disk
		want []impl.Step
	}{
		{impl.DiskNew(), nil},
		{impl.Disk{Db: a, Files: torn}, nil},
		{withJournal(impl.DiskNew(), nil), []impl.Step{{Kind: 3}, {Kind: 4}}},
		{withJournal(impl.DiskNew(), a), []impl.Step{{Kind: 2, Path: 0, Data: 1}, {Kind: 2, Path: 3, Data: 4}, {Kind: 3, Pkgs: a}, {Kind: 4}}},
		{withJournal(holding(a), a), []impl.Step{{Kind: 3, Pkgs: a}, {Kind: 4}}},
		{withJournal(impl.Disk{Db: a, Files: torn}, nil), []impl.Step{{Kind: 2, Path: 0, Data: -1}, {Kind: 2, Path: 2, Data: -1}, {Kind: 2, Path: 3, Data: -1}, {Kind: 3}, {Kind: 4}}},
		{withJournal(impl.Disk{Db: a, Files: torn}, ab), []impl.Step{
			{Kind: 2, Path: 2, Data: 0}, {Kind: 2, Path: 3, Data: -1}, {Kind: 2, Path: 5, Data: 9}, {Kind: 3, Pkgs: ab}, {Kind: 4},
		}},
	} {
		if got := checkMends(t, c.disk); !sameSteps(got, c.want) {
			t.Errorf("InstMends(%v) = %v, want %v", c.disk, got, c.want)
		}
	}
}

// P69
func TestInstMendsOfAllDisks(t *testing.T) {
	for _, d := range append(someDisks(t), randomDisks(40)...) {
		mends := checkMends(t, d)
		if !d.Has {
			if len(mends) != 0 {
				t.Errorf("InstMends(%v) = %v without a journal", d, mends)
			}
			continue
		}
		places := differing(d.Files, impl.PlanFiles(d.Jour))
		kinds := append(slices.Repeat([]int{impl.StepFile}, len(places)), impl.StepDb, impl.StepDone)
		if !slices.Equal(kindsOf(mends), kinds) || !slices.Equal(pathsOf(mends), places) {
			t.Errorf("InstMends(%v) = %v", d, mends)
		}
	}
}

// P69: just the journal of a true disk makes InstMends what InstSteps are but for the first.
func TestInstMendsAreInstStepsButForTheFirst(t *testing.T) {
	for _, p := range somePuts(t) {
		steps := checkSteps(t, p.disk, p.list)
		begun := checkDo(t, p.disk, steps[0], true)
		if got := checkMends(t, begun); !sameSteps(got, steps[1:]) {
			t.Errorf("InstMends(%v) = %v, but there were %v to do", begun, got, steps[1:])
		}
	}
}

func TestInstMendsOfNoDisk(t *testing.T) {
	for _, d := range oddDisks(t) {
		if got := checkMends(t, d); len(got) != 0 {
			t.Errorf("InstMends(%v) = %v", d, got)
		}
		if got := checkMend(t, d, false); !sameDisk(got, impl.Disk{}) {
			t.Errorf("InstMend(%v) = %v, not nothing", d, got)
		}
	}
}

// P73
func TestInstMendsAreOneLessBehindAnyPlace(t *testing.T) {
	files := 0
	for _, d := range fallenDisks(t) {
		mends := checkMends(t, d)
		for i, s := range mends {
			if s.Kind != kindFile {
				continue
			}
			files++
			left := slices.Delete(slices.Clone(mends), i, i+1)
			if got := checkMends(t, checkDo(t, d, s, true)); !sameSteps(got, left) {
				t.Errorf("behind %v InstMends of %v are %v, want %v", s, d, got, left)
			}
			// A place that is torn, whatever it was to be, stays to be mended.
			if got := checkMends(t, checkTear(t, d, s, true)); !sameSteps(got, mends) {
				t.Errorf("behind %v torn InstMends of %v are %v, want %v", s, d, got, mends)
			}
		}
		if got := checkMends(t, checkAll(t, d, mends)); len(got) != 0 {
			t.Errorf("behind all InstMends of %v there are %v", d, got)
		}
	}
	if files == 0 {
		t.Error("no place was to be mended")
	}
}

// P73: packages that are in, or torn, leave all as it is to be mended.
func TestInstMendsDoNotMindWhatIsIn(t *testing.T) {
	lists := append(fewTogether(t), fullLists(t)...)
	for i, d := range fallenDisks(t) {
		mends := checkMends(t, d)
		d.Db = lists[i%len(lists)]
		if got := checkMends(t, d); !sameSteps(got, mends) {
			t.Errorf("InstMends(%v) = %v, want %v", d, got, mends)
		}
	}
}

func TestInstMendByHand(t *testing.T) {
	a, ab := readAll(t, "a1 0:1 3:4"), readAll(t, "a2 0:1 2:0 b1", "b1 5:9")
	torn := impl.Disk{Db: a, Files: []int{1, -1, -2, 7, -1, -1}}
	for _, c := range []struct{ disk, want impl.Disk }{
		{impl.DiskNew(), impl.DiskNew()},
		{torn, torn},
		{withJournal(torn, nil), impl.DiskNew()},
		{withJournal(torn, a), impl.Disk{Db: a, Files: []int{1, -1, -1, 4, -1, -1}}},
		{withJournal(torn, ab), impl.Disk{Db: ab, Files: []int{1, -1, 0, -1, -1, 9}}},
		{withJournal(holding(ab), ab), impl.Disk{Db: ab, Files: []int{1, -1, 0, -1, -1, 9}}},
	} {
		if got := checkMend(t, c.disk, true); !sameDisk(got, c.want) {
			t.Errorf("InstMend(%v) = %v, want %v", c.disk, got, c.want)
		}
	}
}

// P66
func TestInstMendOfAllDisks(t *testing.T) {
	for _, d := range append(someDisks(t), randomDisks(200)...) {
		got := checkMend(t, d, true)
		if d.Has {
			checkDiskTrue(t, got, true)
			if !samePkgs(got.Db, d.Jour) {
				t.Errorf("InstMend(%v) = %v", d, got)
			}
		} else if !sameDisk(got, d) {
			t.Errorf("InstMend(%v) = %v without a journal", d, got)
		}
		if twice := checkMend(t, got, true); !sameDisk(twice, got) {
			t.Errorf("InstMend(%v) is %v, and twice %v", d, got, twice)
		}
	}
}

// P66: anything that may be at any one place, also what is torn.
func TestInstMendOfAllThatIsAtAPlace(t *testing.T) {
	for _, list := range append(fewTogether(t), fullLists(t)...) {
		for path := range 6 {
			for data := dataTorn; data <= dataTop; data++ {
				d := withFile(holding(list), path, data)
				if got := checkMend(t, d, true); !sameDisk(got, d) {
					t.Errorf("InstMend(%v) = %v", d, got)
				}
				d = withJournal(d, list)
				d.Db = nil
				want := 3
				if data == wantFiles(list)[path] {
					want = 2
				}
				if got := checkMends(t, d); len(got) != want {
					t.Errorf("InstMends(%v) = %v", d, got)
				}
				if got := checkMend(t, d, true); !sameDisk(got, holding(list)) {
					t.Errorf("InstMend(%v) = %v", d, got)
				}
			}
		}
	}
}

// InstMend is InstTo of all InstMends.
func TestInstMendIsBehindAllInstMends(t *testing.T) {
	for _, d := range append(fewDisks(t), fallenDisks(t)...) {
		behind := d
		for _, s := range checkMends(t, d) {
			behind = checkDo(t, behind, s, true)
		}
		if got := checkMend(t, d, true); !sameDisk(got, behind) {
			t.Errorf("InstMend(%v) = %v, but behind all InstMends there is %v", d, got, behind)
		}
	}
}
