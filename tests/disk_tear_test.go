package tests

import (
	"slices"
	"testing"

	"loop.example/purser/impl"
)

func TestDiskTearByHand(t *testing.T) {
	a, ab := readAll(t, "a1 0:1"), readAll(t, "a1 0:1", "b2 5:0 a1")
	d := impl.Disk{Db: a, Files: []int{1, -1, -1, -1, -1, -1}, Has: true, Jour: ab}
	for _, c := range []struct {
		step impl.Step
		want impl.Disk
	}{
		{impl.Step{Kind: 1, Pkgs: ab}, d},
		{impl.Step{Kind: 1, Pkgs: a}, d},
		{impl.Step{Kind: 1}, d},
		{impl.Step{Kind: 2, Path: 5, Data: 0}, impl.Disk{Db: a, Files: []int{1, -1, -1, -1, -1, -2}, Has: true, Jour: ab}},
		{impl.Step{Kind: 2, Path: 0, Data: -1}, impl.Disk{Db: a, Files: []int{-2, -1, -1, -1, -1, -1}, Has: true, Jour: ab}},
		{impl.Step{Kind: 2, Path: 0, Data: 1}, impl.Disk{Db: a, Files: []int{-2, -1, -1, -1, -1, -1}, Has: true, Jour: ab}},
		{impl.Step{Kind: 3, Pkgs: ab}, impl.Disk{Files: d.Files, Has: true, Jour: ab}},
		{impl.Step{Kind: 3, Pkgs: a}, impl.Disk{Files: d.Files, Has: true, Jour: ab}},
		{impl.Step{Kind: 3}, impl.Disk{Files: d.Files, Has: true, Jour: ab}},
		{impl.Step{Kind: 4}, d},
	} {
		if got := checkTear(t, d, c.step, true); !sameDisk(got, c.want) {
			t.Errorf("DiskTear(%v, %v) = %v, want %v", d, c.step, got, c.want)
		}
	}
	for _, s := range []impl.Step{{Kind: 1}, {Kind: 1, Pkgs: ab}, {Kind: 3}, {Kind: 3, Pkgs: ab}, {Kind: 4}} {
		if got := checkTear(t, impl.DiskNew(), s, true); !sameDisk(got, impl.DiskNew()) {
			t.Errorf("%v torn on a new disk leaves %v", s, got)
		}
	}
}

// P60
func TestDiskTearOfAllKinds(t *testing.T) {
	for _, d := range someDisks(t) {
		for _, s := range someSteps(t) {
			checkDiskOk(t, checkTear(t, d, s, true), true)
		}
	}
}

// P60
func TestDiskTearLeavesAllElse(t *testing.T) {
	for _, d := range fewDisks(t) {
		for _, s := range someSteps(t) {
			want := cloneDisk(d)
			switch s.Kind {
			case kindFile:
				want.Files[s.Path] = impl.FileTorn
			case kindDb:
				want.Db = nil
			}
			got := checkTear(t, d, s, true)
			if !sameDisk(got, want) {
				t.Errorf("DiskTear(%v, %v) = %v", d, s, got)
			}
			if s.Kind == kindFile {
				checkDiskTrue(t, got, false)
			}
		}
	}
}

// P60: torn once or more often, the step done then is as if it had not been torn.
func TestDiskDoBehindTear(t *testing.T) {
	for _, d := range append(fewDisks(t), randomDisks(40)...) {
		for _, s := range someSteps(t) {
			torn := checkTear(t, d, s, true)
			again := checkTear(t, torn, s, true)
			if !sameDisk(torn, again) {
				t.Errorf("DiskTear(%v, %v) is %v, and torn again %v", d, s, torn, again)
			}
			done := checkDo(t, d, s, true)
			if got := checkDo(t, torn, s, true); !sameDisk(got, done) {
				t.Errorf("DiskDo(%v, %v) is %v, but %v behind being torn", d, s, done, got)
			}
		}
	}
}

// What is torn behind being done is as if it had not been done, but of a journal, and its end, which stay.
func TestDiskTearBehindDo(t *testing.T) {
	for _, d := range fewDisks(t) {
		for _, s := range someSteps(t) {
			done := checkDo(t, d, s, true)
			want := done
			if s.Kind == kindFile || s.Kind == kindDb {
				want = checkTear(t, d, s, true)
			}
			if got := checkTear(t, done, s, true); !sameDisk(got, want) {
				t.Errorf("DiskTear(%v, %v) = %v, want %v", done, s, got, want)
			}
		}
	}
}

// P60: what was to be at the place, and what was there, leave no trace.
func TestDiskTearOfAllFiles(t *testing.T) {
	for was := dataTorn; was <= dataTop; was++ {
		for _, s := range fileSteps() {
			d := impl.Disk{Files: with([]int{0, 1, 2, 3, 4, 9}, s.Path, was)}
			got := checkTear(t, d, s, true)
			if !slices.Equal(got.Files, with([]int{0, 1, 2, 3, 4, 9}, s.Path, impl.FileTorn)) {
				t.Errorf("DiskTear(%v, %v) = %v", d, s, got)
			}
		}
	}
}

// A disk on which all was torn, in any order, is whole again behind all done.
func TestDiskBehindAllTorn(t *testing.T) {
	list := readAll(t, "a1 0:0 5:9", "b2 1:1 2:2", "c1 3:3 a1", "d5 4:4 b1 c1")
	steps := []impl.Step{{Kind: kindJour, Pkgs: list}}
	for path, data := range wantFiles(list) {
		steps = append(steps, impl.Step{Kind: kindFile, Path: path, Data: data})
	}
	steps = append(steps, impl.Step{Kind: kindDb, Pkgs: list}, impl.Step{Kind: kindDone})
	for _, d := range fewDisks(t) {
		for _, s := range steps {
			d = checkTear(t, d, s, true)
		}
		if len(d.Db) != 0 || !slices.Equal(d.Files, []int{-2, -2, -2, -2, -2, -2}) {
			t.Errorf("behind all torn there is %v", d)
		}
		for _, s := range steps {
			d = checkDo(t, d, s, true)
		}
		checkDiskTrue(t, d, true)
	}
}
