package tests

import (
	"slices"
	"testing"

	"loop.example/purser/impl"
)

func TestDiskDoByHand(t *testing.T) {
	d := impl.Disk{Db: readAll(t, "a1 0:1"), Files: []int{1, -1, -2, -1, -1, -1}}
	ab := readAll(t, "a1 0:1", "b2 5:0 a1")
	for _, c := range []struct {
		step impl.Step
		want impl.Disk
	}{
		{impl.Step{Kind: 1, Pkgs: ab}, impl.Disk{Db: d.Db, Files: d.Files, Has: true, Jour: ab}},
		{impl.Step{Kind: 1}, impl.Disk{Db: d.Db, Files: d.Files, Has: true}},
		{impl.Step{Kind: 2, Path: 5, Data: 0}, impl.Disk{Db: d.Db, Files: []int{1, -1, -2, -1, -1, 0}}},
		{impl.Step{Kind: 2, Path: 2, Data: 9}, impl.Disk{Db: d.Db, Files: []int{1, -1, 9, -1, -1, -1}}},
		{impl.Step{Kind: 2, Path: 0, Data: -1}, impl.Disk{Db: d.Db, Files: []int{-1, -1, -2, -1, -1, -1}}},
		{impl.Step{Kind: 2}, impl.Disk{Db: d.Db, Files: []int{0, -1, -2, -1, -1, -1}}},
		{impl.Step{Kind: 3, Pkgs: ab}, impl.Disk{Db: ab, Files: d.Files}},
		{impl.Step{Kind: 3}, impl.Disk{Files: d.Files}},
		{impl.Step{Kind: 4}, d},
	} {
		if got := checkDo(t, d, c.step, true); !sameDisk(got, c.want) {
			t.Errorf("DiskDo(%v, %v) = %v, want %v", d, c.step, got, c.want)
		}
	}
	j := impl.Disk{Db: d.Db, Files: d.Files, Has: true, Jour: ab}
	if got := checkDo(t, j, impl.Step{Kind: 4}, true); !sameDisk(got, d) {
		t.Errorf("the end of a journal leaves %v", got)
	}
	if got := checkDo(t, j, impl.Step{Kind: 1}, true); !sameDisk(got, impl.Disk{Db: d.Db, Files: d.Files, Has: true}) {
		t.Errorf("a journal of nothing behind another one leaves %v", got)
	}
}

// P59
func TestDiskDoOfAllKinds(t *testing.T) {
	for _, d := range someDisks(t) {
		for _, s := range someSteps(t) {
			checkDiskOk(t, checkDo(t, d, s, true), true)
		}
	}
}

// P59: what the step is for is there, and all else is as it was.
func TestDiskDoLeavesAllElse(t *testing.T) {
	for _, d := range fewDisks(t) {
		for _, s := range someSteps(t) {
			got := checkDo(t, d, s, true)
			isSo := map[string]bool{
				"in":    samePkgs(got.Db, d.Db),
				"files": slices.Equal(got.Files, d.Files),
				"jour":  got.Has == d.Has && samePkgs(got.Jour, d.Jour),
			}
			switch s.Kind {
			case kindJour:
				isSo["jour"] = got.Has && samePkgs(got.Jour, s.Pkgs)
			case kindFile:
				isSo["files"] = len(got.Files) == 6 && got.Files[s.Path] == s.Data && slices.Equal(with(got.Files, s.Path, 7), with(d.Files, s.Path, 7))
			case kindDb:
				isSo["in"] = samePkgs(got.Db, s.Pkgs)
			case kindDone:
				isSo["jour"] = !got.Has && len(got.Jour) == 0
			}
			if !isSo["in"] || !isSo["files"] || !isSo["jour"] {
				t.Errorf("DiskDo(%v, %v) = %v: %v", d, s, got, isSo)
			}
		}
	}
}

// P59
func TestDiskDoTwiceIsOnce(t *testing.T) {
	for _, d := range fewDisks(t) {
		for _, s := range someSteps(t) {
			once := checkDo(t, d, s, true)
			if twice := checkDo(t, once, s, true); !sameDisk(once, twice) {
				t.Errorf("DiskDo(%v, %v) is %v, and done again %v", d, s, once, twice)
			}
		}
	}
}

// P59: any data at any place, over anything that is there.
func TestDiskDoOfAllFiles(t *testing.T) {
	list := readAll(t, "a1 0:0 5:9", "b2 1:1 2:2", "c1 3:3 a1", "d5 4:4 b1 c1")
	for was := dataTorn; was <= dataTop; was++ {
		for _, s := range fileSteps() {
			d := impl.Disk{Db: list, Files: with([]int{0, 1, 2, 3, 4, 9}, s.Path, was), Has: was > 3}
			got := checkDo(t, d, s, true)
			checkDiskTrue(t, got, was <= 3 && s.Data == wantFiles(list)[s.Path])
		}
	}
}

// P59: of all lists that can be in together.
func TestDiskDoOfAnyPackages(t *testing.T) {
	disks := fewDisks(t)
	for i, list := range togetherLists(t) {
		if i%3 > 0 {
			continue
		}
		d := disks[i%len(disks)]
		checkDo(t, d, impl.Step{Kind: kindJour, Pkgs: list}, true)
		checkTear(t, d, impl.Step{Kind: kindJour, Pkgs: list}, true)
		checkDo(t, d, impl.Step{Kind: kindDb, Pkgs: list}, true)
		checkTear(t, d, impl.Step{Kind: kindDb, Pkgs: list}, true)
	}
}

// P62
func TestDiskDoesNoOddStep(t *testing.T) {
	disks := fewDisks(t)
	for i, s := range oddSteps(t) {
		if isStep(s) {
			t.Fatalf("%v is a step", s)
		}
		checkNoStep(t, impl.DiskNew(), s)
		for j := range 6 {
			checkNoStep(t, disks[(i*5+j*17)%len(disks)], s)
		}
	}
}

// P62
func TestDiskDoesNoStepOnAnOddDisk(t *testing.T) {
	steps, odd := someSteps(t), oddSteps(t)
	for i, d := range oddDisks(t) {
		if isDisk(d) {
			t.Fatalf("%v is ok", d)
		}
		for _, s := range otherSteps(t)[:5] {
			checkNoStep(t, d, s)
		}
		checkNoStep(t, d, steps[i%len(steps)])
		checkNoStep(t, d, odd[i%len(odd)])
	}
}

// P62: of each kind with each part of its own, and of others, at the edges.
func TestDiskStepsByParts(t *testing.T) {
	d := impl.Disk{Db: readAll(t, "a1"), Files: []int{1, -1, -2, -1, -1, -1}, Has: true, Jour: readAll(t, "b1")}
	steps, none := 0, 0
	for kind := -2; kind <= 7; kind++ {
		for path := -2; path <= 8; path++ {
			for data := -4; data <= 12; data++ {
				for _, list := range [][]impl.Pkg{nil, {}, readAll(t, "c1 0:1"), readAll(t, "a1 b1"), readAll(t, "a1", "b1 a1")} {
					s := impl.Step{Kind: kind, Path: path, Data: data, Pkgs: list}
					if isStep(s) {
						checkDo(t, d, s, true)
						checkTear(t, d, s, true)
						steps++
					} else {
						checkNoStep(t, d, s)
						none++
					}
				}
			}
		}
	}
	// Four lists of two kinds, two empty ones at the end of a journal, and these for each place and data.
	if steps != 4*2+2+2*6*11 || none == 0 {
		t.Errorf("%d are steps, and %d are none", steps, none)
	}
}
