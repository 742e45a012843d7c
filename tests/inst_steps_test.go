package tests

import (
	"slices"
	"testing"

	"loop.example/purser/impl"
)

func TestInstStepsByHand(t *testing.T) {
	a, ab := readAll(t, "a1 0:1 3:4"), readAll(t, "a2 0:1 2:0 b1", "b1 5:9")
	in := impl.Disk{Db: a, Files: []int{1, -1, -1, 4, -1, -1}}
	for _, c := range []struct {
		disk impl.Disk
		list []impl.Pkg
		want []impl.Step
	}{
		{impl.DiskNew(), nil, []impl.Step{{Kind: 1}, {Kind: 3}, {Kind: 4}}},
		{impl.DiskNew(), a, []impl.Step{{Kind: 1, Pkgs: a}, {Kind: 2, Path: 0, Data: 1}, {Kind: 2, Path: 3, Data: 4}, {Kind: 3, Pkgs: a}, {Kind: 4}}},
		{in, a, []impl.Step{{Kind: 1, Pkgs: a}, {Kind: 3, Pkgs: a}, {Kind: 4}}},
		{in, nil, []impl.Step{{Kind: 1}, {Kind: 2, Path: 0, Data: -1}, {Kind: 2, Path: 3, Data: -1}, {Kind: 3}, {Kind: 4}}},
		{in, ab, []impl.Step{
			{Kind: 1, Pkgs: ab}, {Kind: 2, Path: 2, Data: 0}, {Kind: 2, Path: 3, Data: -1}, {Kind: 2, Path: 5, Data: 9}, {Kind: 3, Pkgs: ab}, {Kind: 4},
		}},
	} {
		if got := checkSteps(t, c.disk, c.list); !sameSteps(got, c.want) {
			t.Errorf("InstSteps(%v, %v) = %v, want %v", c.disk, c.list, got, c.want)
		}
	}
}

// P63
func TestInstStepsDoneOneBehindTheOther(t *testing.T) {
	for _, p := range somePuts(t) {
		d := cloneDisk(p.disk)
		for _, s := range checkSteps(t, p.disk, p.list) {
			d = checkDo(t, d, s, true)
		}
		checkDiskTrue(t, d, true)
		if !samePkgs(d.Db, p.list) {
			t.Errorf("behind all steps of %v on %v there is %v", p.list, p.disk, d)
		}
	}
}

// P64
func TestInstStepsAreOfTheirKinds(t *testing.T) {
	for _, p := range somePuts(t) {
		steps := checkSteps(t, p.disk, p.list)
		places := differing(p.disk.Files, wantFiles(p.list))
		kinds := slices.Concat([]int{impl.StepJour}, slices.Repeat([]int{impl.StepFile}, len(places)), []int{impl.StepDb, impl.StepDone})
		if !slices.Equal(kindsOf(steps), kinds) || !slices.Equal(pathsOf(steps), places) {
			t.Fatalf("InstSteps(%v, %v) = %v", p.disk, p.list, steps)
		}
		for _, s := range steps {
			if !isStep(s) {
				t.Errorf("InstSteps(%v, %v) has %v", p.disk, p.list, s)
			}
			if s.Kind == kindFile && s.Data != impl.PlanFiles(p.list)[s.Path] {
				t.Errorf("InstSteps(%v, %v) puts %v", p.disk, p.list, s)
			}
			if (s.Kind == kindJour || s.Kind == kindDb) && !samePkgs(s.Pkgs, p.list) {
				t.Errorf("InstSteps(%v, %v) has packages of its own: %v", p.disk, p.list, s)
			}
		}
	}
}

// P64: all that may be at any one place, and all that may come there.
func TestInstStepsOfAllFiles(t *testing.T) {
	filed := func(path, data int) []impl.Pkg {
		if data == dataNone {
			return []impl.Pkg{{Name: 2, Ver: 3}}
		}
		return []impl.Pkg{{Name: 2, Ver: 3, Files: []impl.File{{Path: path, Data: data}}}}
	}
	for path := range 6 {
		for was := dataNone; was <= dataTop; was++ {
			for data := dataNone; data <= dataTop; data++ {
				list := filed(path, data)
				want := []impl.Step{{Kind: 1, Pkgs: list}, {Kind: 2, Path: path, Data: data}, {Kind: 3, Pkgs: list}, {Kind: 4}}
				if was == data {
					want = slices.Delete(want, 1, 2)
				}
				if got := checkSteps(t, holding(filed(path, was)), list); !sameSteps(got, want) {
					t.Errorf("for %d instead of %d at the place %d there are %v", data, was, path, got)
				}
			}
		}
	}
}

// P64: of any packages that can be in together.
func TestInstStepsOfAnyPackages(t *testing.T) {
	lists := togetherLists(t)
	for i, list := range lists {
		if i%4 == 0 {
			d := holding(lists[i*7%len(lists)])
			if got := checkAll(t, d, checkSteps(t, d, list)); !sameDisk(got, holding(list)) {
				t.Errorf("%v put in on %v leave %v", list, d, got)
			}
		}
	}
}

// P70
func TestInstStepsOfWhatIsInAreThree(t *testing.T) {
	for i, list := range togetherLists(t) {
		if i%8 > 0 {
			continue
		}
		d := holding(list)
		steps := checkSteps(t, d, list)
		if !slices.Equal(kindsOf(steps), []int{impl.StepJour, impl.StepDb, impl.StepDone}) {
			t.Errorf("of what is in, %v, there are %v", list, steps)
		}
		if got := checkAll(t, d, steps); !sameDisk(got, d) {
			t.Errorf("%v put in once more is %v", list, got)
		}
	}
}

// P70
func TestInstStepsOfNothingLeaveNothing(t *testing.T) {
	for _, p := range somePuts(t) {
		if got := checkAll(t, p.disk, checkSteps(t, p.disk, nil)); !sameDisk(got, impl.DiskNew()) {
			t.Errorf("nothing put in on %v is %v", p.disk, got)
		}
		if !sameSteps(impl.InstSteps(p.disk, nil), impl.InstSteps(p.disk, []impl.Pkg{})) {
			t.Errorf("no packages and an empty list of them are not the same on %v", p.disk)
		}
	}
}

// P71
func TestInstStepsOneBehindTheOther(t *testing.T) {
	for _, p := range somePuts(t) {
		for _, other := range append(fewTogether(t), fullLists(t)...) {
			first := checkAll(t, p.disk, checkSteps(t, p.disk, other))
			both, just := checkAll(t, first, checkSteps(t, first, p.list)), checkAll(t, p.disk, checkSteps(t, p.disk, p.list))
			if !sameDisk(both, just) || !sameDisk(both, holding(p.list)) {
				t.Errorf("%v and then %v put in on %v are %v; just these are %v", other, p.list, p.disk, both, just)
			}
			if back := checkAll(t, both, checkSteps(t, both, p.disk.Db)); !sameDisk(back, p.disk) {
				t.Errorf("what was in on %v is back as %v", p.disk, back)
			}
		}
	}
}

func TestInstStepsOfNoTrueDisk(t *testing.T) {
	lists, odd := append(fewTogether(t), fullLists(t)...), oddDisks(t)
	for i, d := range odd {
		checkNoSteps(t, d, lists[i%len(lists)])
		checkNoSteps(t, d, d.Db)
	}
	untrue := 0
	for _, d := range append(someDisks(t), randomDisks(40)...) {
		if !isTrueDisk(d) {
			checkNoSteps(t, d, nil)
			checkNoSteps(t, d, d.Db)
			checkNoSteps(t, d, d.Jour)
			checkNoSteps(t, d, lists[untrue%len(lists)])
			untrue++
		}
	}
	if untrue == 0 {
		t.Error("all disks are true")
	}
}

// One thing at any one place that is not as what is in says, or a journal of anything, and nothing is put in.
func TestInstStepsOfADiskThatIsNotTrueByOneThing(t *testing.T) {
	for _, p := range somePuts(t) {
		for path := range 6 {
			for data := dataTorn - 1; data <= dataTop+1; data++ {
				d := withFile(p.disk, path, data)
				if data == p.disk.Files[path] {
					checkSteps(t, d, p.list)
				} else {
					checkNoSteps(t, d, p.list)
				}
			}
		}
		for _, jour := range [][]impl.Pkg{nil, p.disk.Db, p.list} {
			checkNoSteps(t, withJournal(p.disk, jour), p.list)
		}
	}
}

func TestInstStepsOfPackagesThatCannotBeInTogether(t *testing.T) {
	disks := []impl.Disk{impl.DiskNew()}
	for _, list := range append(fewTogether(t), fullLists(t)...) {
		disks = append(disks, holding(list))
	}
	for i, list := range oddLists(t) {
		checkNoSteps(t, disks[0], list)
		checkNoSteps(t, disks[i%len(disks)], list)
	}
}

// What is needed has to be among what is to be in: that it is in does not help.
func TestInstStepsOfWhatNeedsWhatIsIn(t *testing.T) {
	d := holding(readAll(t, "a1 0:1"))
	checkNoSteps(t, d, readAll(t, "b1 1:1 a1"))
	checkNoSteps(t, d, readAll(t, "a1 0:1", "b1 0:1"))
	checkSteps(t, d, readAll(t, "b1 0:2"))
	checkSteps(t, d, readAll(t, "a1 0:1", "b1 1:1 a1"))
}
