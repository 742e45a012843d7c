package tests

import (
	"math/rand"
	"slices"
	"testing"

	"loop.example/purser/impl"
)

// Kinds of steps, and what is at places, as the document numbers them.
const (
	kindJour, kindFile, kindDb, kindDone = 1, 2, 3, 4
	dataTorn, dataNone, dataTop          = -2, -1, 9
)

// isDisk says, without the program, whether a disk is ok.
func isDisk(d impl.Disk) bool {
	for _, data := range d.Files {
		if data < dataTorn || data > dataTop {
			return false
		}
	}
	return len(d.Files) == 6 && isTogether(d.Db) && isTogether(d.Jour) && (d.Has || len(d.Jour) == 0)
}

// isTrueDisk says, without the program, whether a disk is true.
func isTrueDisk(d impl.Disk) bool {
	return isDisk(d) && !d.Has && slices.Equal(d.Files, wantFiles(d.Db))
}

// isStep says, without the program, whether a step is one.
func isStep(s impl.Step) bool {
	switch s.Kind {
	case kindJour, kindDb:
		return s.Path == 0 && s.Data == 0 && isTogether(s.Pkgs)
	case kindFile:
		return 0 <= s.Path && s.Path < 6 && dataNone <= s.Data && s.Data <= dataTop && len(s.Pkgs) == 0
	case kindDone:
		return s.Path == 0 && s.Data == 0 && len(s.Pkgs) == 0
	}
	return false
}

// wantDo is, without the program, what DiskDo answers.
func wantDo(d impl.Disk, s impl.Step) (impl.Disk, bool) {
	if !isDisk(d) || !isStep(s) {
		return impl.Disk{}, false
	}
	switch s.Kind {
	case kindJour:
		d.Has, d.Jour = true, s.Pkgs
	case kindFile:
		d.Files = with(d.Files, s.Path, s.Data)
	case kindDb:
		d.Db = s.Pkgs
	case kindDone:
		d.Has, d.Jour = false, nil
	}
	return d, true
}

// wantTear is, without the program, what DiskTear answers.
func wantTear(d impl.Disk, s impl.Step) (impl.Disk, bool) {
	if !isDisk(d) || !isStep(s) {
		return impl.Disk{}, false
	}
	switch s.Kind {
	case kindFile:
		d.Files = with(d.Files, s.Path, dataTorn)
	case kindDb:
		d.Db = nil
	}
	return d, true
}

// with is a new list, another number at one place.
func with(list []int, place, n int) []int {
	out := slices.Clone(list)
	out[place] = n
	return out
}

func sameDisk(a, b impl.Disk) bool {
	return samePkgs(a.Db, b.Db) && slices.Equal(a.Files, b.Files) && a.Has == b.Has && samePkgs(a.Jour, b.Jour)
}

func cloneDisk(d impl.Disk) impl.Disk {
	d.Db, d.Files, d.Jour = clonePkgs(d.Db), slices.Clone(d.Files), clonePkgs(d.Jour)
	return d
}

func cloneStep(s impl.Step) impl.Step {
	s.Pkgs = clonePkgs(s.Pkgs)
	return s
}

// fewTogether are lists that can be in together: none, one, and several, with all places or none, and with what is needed, in a circle or not.
func fewTogether(t *testing.T) [][]impl.Pkg {
	t.Helper()
	out := [][]impl.Pkg{nil}
	for _, texts := range [][]string{
		{"a1"}, {"a1 0:1"}, {"d5 0:9 5:0"}, {"a2 0:2 b2", "b2 1:1"}, {"a1 b1", "b1 2:0 a1"},
		{"a1 0:0 5:9", "b2 1:1 2:2", "c1 3:3 a1", "d5 4:4 b1 c1"},
	} {
		out = append(out, readAll(t, texts...))
	}
	return out
}

// someFiles are what may be at all places, beside what packages say: all alike, of all kinds, and another thing at the first place, or at the last.
func someFiles(list []impl.Pkg) [][]int {
	files := wantFiles(list)
	return [][]int{
		files, {-1, -1, -1, -1, -1, -1}, {-2, -2, -2, -2, -2, -2}, {0, 0, 0, 0, 0, 0}, {9, 9, 9, 9, 9, 9}, {-2, -1, 0, 5, 9, -2}, {1, -2, -1, -1, 0, -1},
		with(files, 0, dataTorn), with(files, 5, dataTorn), with(files, 0, 8), with(files, 5, dataNone),
	}
}

// someDisks are ok: with nothing in, one, and several, with no journal, one of nothing, and of some, and places as packages say or not.
func someDisks(t *testing.T) []impl.Disk {
	t.Helper()
	out, lists := []impl.Disk{}, fewTogether(t)
	for _, db := range lists {
		for _, files := range someFiles(db) {
			out = append(out, impl.Disk{Db: db, Files: files})
			for _, jour := range lists {
				out = append(out, impl.Disk{Db: db, Files: files, Has: true, Jour: jour})
			}
		}
	}
	for i := range out {
		out[i] = cloneDisk(out[i])
	}
	return out
}

// fewDisks are some of all disks, of all kinds, and some of other packages.
func fewDisks(t *testing.T) []impl.Disk {
	t.Helper()
	out := []impl.Disk{}
	for i, d := range someDisks(t) {
		// 13 shares no divisor with how many lists, or files, there are, so that all of them come up.
		if i%13 == 0 {
			out = append(out, d)
		}
	}
	return append(out, randomDisks(20)...)
}

// randomDisks are ok, of packages that can be in, of a journal of more, and of any files, three kinds of each.
func randomDisks(n int) []impl.Disk {
	r, cases, out := rand.New(rand.NewSource(58)), somePlanCases(), []impl.Disk{}
	for range n {
		c := cases[r.Intn(len(cases))]
		more := grown(r, c.store)
		files := make([]int, 6)
		for i := range files {
			files[i] = r.Intn(12) - 2
		}
		for _, d := range []impl.Disk{{Db: c.have, Files: wantFiles(c.have)}, {Db: c.have, Files: wantFiles(more), Has: true, Jour: more}, {Db: more, Files: files, Has: true, Jour: c.have}} {
			out = append(out, cloneDisk(d))
		}
	}
	return out
}

// fileSteps are all steps that put something, or nothing, at a place.
func fileSteps() []impl.Step {
	out := []impl.Step{}
	for path := range 6 {
		for data := dataNone; data <= dataTop; data++ {
			out = append(out, impl.Step{Kind: kindFile, Path: path, Data: data})
		}
	}
	return out
}

// otherSteps are all steps of the other kinds, of lists that can be in together.
func otherSteps(t *testing.T) []impl.Step {
	t.Helper()
	out := []impl.Step{{Kind: kindDone}}
	for _, list := range fewTogether(t) {
		out = append(out, impl.Step{Kind: kindJour, Pkgs: list}, impl.Step{Kind: kindDb, Pkgs: clonePkgs(list)})
	}
	return out
}

func someSteps(t *testing.T) []impl.Step {
	t.Helper()
	return append(otherSteps(t), fileSteps()...)
}

// fewSteps are all steps of the other kinds, and at each place nothing, the least, and the most.
func fewSteps(t *testing.T) []impl.Step {
	t.Helper()
	return slices.DeleteFunc(someSteps(t), func(s impl.Step) bool { return s.Data > 0 && s.Data < dataTop })
}

// oddLists cannot be in together.
func oddLists(t *testing.T) [][]impl.Pkg {
	t.Helper()
	return append(apartLists(t), oddStores(t)...)
}

// oddDisks are not ok, each for one cause alone.
func oddDisks(t *testing.T) []impl.Disk {
	t.Helper()
	none, full := []int{-1, -1, -1, -1, -1, -1}, readAll(t, "a1 0:0 5:9", "b2 1:1 2:2", "c1 3:3 a1", "d5 4:4 b1 c1")
	bases := []impl.Disk{{Files: none}, {Db: full, Files: wantFiles(full)}, {Files: none, Has: true}, {Db: full[:2], Files: []int{-2, -1, 0, 5, 9, -2}, Has: true, Jour: full}}
	out := []impl.Disk{{}, {Has: true}, {Db: full}, {Has: true, Jour: full}}
	for _, base := range bases {
		add := func(change func(d *impl.Disk)) {
			d := cloneDisk(base)
			change(&d)
			out = append(out, d)
		}
		for _, n := range []int{0, 1, 5, 7, 8, 12, 1000} {
			add(func(d *impl.Disk) { d.Files = slices.Repeat(d.Files, 1+n/6)[:n] })
		}
		for path := range 6 {
			for _, data := range append([]int{-4, -3, 10, 11}, farNumbers...) {
				add(func(d *impl.Disk) { d.Files[path] = data })
			}
		}
		for _, list := range oddLists(t) {
			add(func(d *impl.Disk) { d.Db = list })
			add(func(d *impl.Disk) { d.Has, d.Jour = true, list })
			add(func(d *impl.Disk) { d.Has, d.Jour = false, list })
		}
		for _, list := range fewTogether(t)[1:] {
			add(func(d *impl.Disk) { d.Has, d.Jour = false, list })
		}
	}
	return out
}

// oddSteps are no steps, each for one cause alone.
func oddSteps(t *testing.T) []impl.Step {
	t.Helper()
	out := []impl.Step{{}}
	for _, n := range append([]int{-2, -1, 0, 5, 6}, farNumbers...) {
		out = append(out, impl.Step{Kind: n}, impl.Step{Kind: n, Path: 2, Data: 5}, impl.Step{Kind: n, Pkgs: readAll(t, "a1 0:1")})
	}
	for _, n := range append([]int{-2, -1, 6, 7}, farNumbers...) {
		out = append(out, impl.Step{Kind: kindFile, Path: n}, impl.Step{Kind: kindFile, Path: n, Data: 9}, impl.Step{Kind: kindFile, Path: n, Data: -1})
	}
	for _, n := range append([]int{-3, -2, 10, 11}, farNumbers...) {
		out = append(out, impl.Step{Kind: kindFile, Data: n}, impl.Step{Kind: kindFile, Path: 5, Data: n})
	}
	for _, list := range oddLists(t) {
		out = append(out, impl.Step{Kind: kindJour, Pkgs: list}, impl.Step{Kind: kindDb, Pkgs: list}, impl.Step{Kind: kindDone, Pkgs: list}, impl.Step{Kind: kindFile, Pkgs: list})
	}
	for _, list := range fewTogether(t)[1:] {
		out = append(out, impl.Step{Kind: kindDone, Pkgs: list}, impl.Step{Kind: kindFile, Pkgs: list}, impl.Step{Kind: kindFile, Path: 5, Data: 9, Pkgs: list})
	}
	for _, n := range append([]int{-2, -1, 1, 2, 5, 6, 9, 10}, farNumbers...) {
		out = append(out, impl.Step{Kind: kindDone, Path: n}, impl.Step{Kind: kindDone, Data: n}, impl.Step{Kind: kindDone, Path: n, Data: n})
		for _, list := range fewTogether(t) {
			out = append(out, impl.Step{Kind: kindJour, Path: n, Pkgs: list}, impl.Step{Kind: kindJour, Data: n, Pkgs: list},
				impl.Step{Kind: kindDb, Path: n, Pkgs: list}, impl.Step{Kind: kindDb, Data: n, Pkgs: list})
		}
	}
	return out
}

func checkDiskOk(t *testing.T, d impl.Disk, want bool) {
	t.Helper()
	if got := impl.DiskOk(d); got != want || isDisk(d) != want {
		t.Errorf("DiskOk(%v) = %v, want %v", d, got, want)
	}
}

func checkDiskTrue(t *testing.T, d impl.Disk, want bool) {
	t.Helper()
	if got := impl.DiskTrue(d); got != want || isTrueDisk(d) != want {
		t.Errorf("DiskTrue(%v) = %v, want %v", d, got, want)
	}
}

// checkDo asks whether a step is done, and that all is as the document says behind it, and tells the disk.
func checkDo(t *testing.T, d impl.Disk, s impl.Step, want bool) impl.Disk {
	t.Helper()
	got, ok := impl.DiskDo(d, s)
	if after, _ := wantDo(d, s); ok != want || !sameDisk(got, after) {
		t.Errorf("DiskDo(%v, %v) = %v, %v; want %v, %v", d, s, got, ok, after, want)
	}
	return got
}

// checkTear asks whether a step is torn, and that all is as the document says behind it, and tells the disk.
func checkTear(t *testing.T, d impl.Disk, s impl.Step, want bool) impl.Disk {
	t.Helper()
	got, ok := impl.DiskTear(d, s)
	if after, _ := wantTear(d, s); ok != want || !sameDisk(got, after) {
		t.Errorf("DiskTear(%v, %v) = %v, %v; want %v, %v", d, s, got, ok, after, want)
	}
	return got
}

// checkNoStep asks that nothing and false are answered, done and torn.
func checkNoStep(t *testing.T, d impl.Disk, s impl.Step) {
	t.Helper()
	for _, got := range []impl.Disk{checkDo(t, d, s, false), checkTear(t, d, s, false)} {
		if !sameDisk(got, impl.Disk{}) {
			t.Errorf("%v and %v are answered %v, not nothing", d, s, got)
		}
	}
}
