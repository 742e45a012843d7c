package tests

import (
	"math/rand"
	"slices"
	"testing"

	"loop.example/purser/impl"
)

// wantSteps is, without the program, what InstSteps answers.
func wantSteps(d impl.Disk, list []impl.Pkg) []impl.Step {
	if !isTrueDisk(d) || !isTogether(list) {
		return nil
	}
	return append([]impl.Step{{Kind: kindJour, Pkgs: list}}, behindJour(d.Files, list)...)
}

// wantMends is, without the program, what InstMends answers.
func wantMends(d impl.Disk) []impl.Step {
	if !isDisk(d) || !d.Has {
		return nil
	}
	return behindJour(d.Files, d.Jour)
}

// behindJour are, without the program, all steps that put packages in, but for the journal.
func behindJour(files []int, list []impl.Pkg) []impl.Step {
	out, want := []impl.Step{}, wantFiles(list)
	for _, path := range differing(files, want) {
		out = append(out, impl.Step{Kind: kindFile, Path: path, Data: want[path]})
	}
	return append(out, impl.Step{Kind: kindDb, Pkgs: list}, impl.Step{Kind: kindDone})
}

// differing are the places at which two lists of places are not the same.
func differing(a, b []int) []int {
	out := []int{}
	for path := range 6 {
		if a[path] != b[path] {
			out = append(out, path)
		}
	}
	return out
}

// wantTo is, without the program, what InstTo answers.
func wantTo(d impl.Disk, steps []impl.Step, cut int, torn bool) (impl.Disk, bool) {
	if !isDisk(d) || cut < 0 || !areSteps(steps) {
		return impl.Disk{}, false
	}
	for i, s := range steps {
		if i < cut {
			d, _ = wantDo(d, s)
		} else if i == cut && torn {
			d, _ = wantTear(d, s)
		}
	}
	return d, true
}

func areSteps(steps []impl.Step) bool {
	for _, s := range steps {
		if !isStep(s) {
			return false
		}
	}
	return true
}

// wantMend is, without the program and without any steps, what InstMend answers.
func wantMend(d impl.Disk) (impl.Disk, bool) {
	if !isDisk(d) {
		return impl.Disk{}, false
	}
	if d.Has {
		return holding(d.Jour), true
	}
	return d, true
}

// holding is a true disk of packages that can be in together.
func holding(list []impl.Pkg) impl.Disk {
	return impl.Disk{Db: clonePkgs(list), Files: wantFiles(list)}
}

// withJournal is a disk with a journal of packages.
func withJournal(d impl.Disk, list []impl.Pkg) impl.Disk {
	d.Has, d.Jour = true, list
	return d
}

// withFile is a disk with another thing at one place.
func withFile(d impl.Disk, path, data int) impl.Disk {
	d.Files = with(d.Files, path, data)
	return d
}

func sameStep(a, b impl.Step) bool {
	return a.Kind == b.Kind && a.Path == b.Path && a.Data == b.Data && samePkgs(a.Pkgs, b.Pkgs)
}

func sameSteps(a, b []impl.Step) bool {
	return slices.EqualFunc(a, b, sameStep)
}

func cloneSteps(steps []impl.Step) []impl.Step {
	out := []impl.Step{}
	for _, s := range steps {
		out = append(out, cloneStep(s))
	}
	return out
}

// kindsOf are the kinds of steps, in order.
func kindsOf(steps []impl.Step) []int {
	out := []int{}
	for _, s := range steps {
		out = append(out, s.Kind)
	}
	return out
}

// pathsOf are the places of those steps that put something at one, in order.
func pathsOf(steps []impl.Step) []int {
	out := []int{}
	for _, s := range steps {
		if s.Kind == kindFile {
			out = append(out, s.Path)
		}
	}
	return out
}

// fullLists have something at each place: the second another thing at each than the first, the third at some, the fourth at none.
func fullLists(t *testing.T) [][]impl.Pkg {
	t.Helper()
	out := [][]impl.Pkg{}
	for _, texts := range [][]string{
		{"a1 0:0 5:9", "b2 1:1 2:2", "c1 3:3 a1", "d5 4:4 b1 c1"},
		{"a2 2:0 3:0 c2", "b1 4:1 5:1", "c2 0:9 1:8"},
		{"b2 1:1 2:2", "c3 0:7 5:9", "d5 3:6 4:4 b2"},
		{"a3 0:0 5:9", "c2 1:1 3:3", "d1 2:2 4:4 c1"},
	} {
		out = append(out, readAll(t, texts...))
	}
	return out
}

// putCase is a true disk, and packages that are to be in on it.
type putCase struct {
	disk impl.Disk
	list []impl.Pkg
}

// somePuts are of nothing, one, and several, in and to be in: the same, some of them newer, more, fewer, or all others.
func somePuts(t *testing.T) []putCase {
	t.Helper()
	lists := append(fewTogether(t), fullLists(t)...)
	out := []putCase{}
	for _, have := range lists {
		for _, list := range lists {
			out = append(out, putCase{holding(have), clonePkgs(list)})
		}
	}
	r, cases := rand.New(rand.NewSource(63)), somePlanCases()
	for range 60 {
		c := cases[r.Intn(len(cases))]
		if list, ok := wantPlan(c.store, c.have, 1+r.Intn(4)); ok {
			out = append(out, putCase{holding(c.have), clonePkgs(list)})
		}
		out = append(out, putCase{holding(c.have), grown(r, cases[r.Intn(len(cases))].store)})
	}
	return out
}

// putKind tells how much is in, how much is to be in, at how many places they differ, and whether all is in already.
type putKind struct {
	in, toBe, places int
	already          bool
}

func (p putCase) kind() putKind {
	return putKind{min(len(p.disk.Db), 2), min(len(p.list), 2), len(differing(p.disk.Files, wantFiles(p.list))), samePkgs(p.disk.Db, p.list)}
}

func TestPutsAreOfAllKinds(t *testing.T) {
	kinds, sizes, places := map[putKind]int{}, map[[2]int]int{}, map[int]int{}
	for _, p := range somePuts(t) {
		if !isTrueDisk(p.disk) || !isTogether(p.list) {
			t.Fatalf("%v cannot be put in on %v", p.list, p.disk)
		}
		k := p.kind()
		kinds[k]++
		places[k.places]++
		if !k.already {
			sizes[[2]int{k.in, k.toBe}]++
		}
	}
	for in := range 3 {
		for toBe := range 3 {
			if in+toBe > 0 && sizes[[2]int{in, toBe}] == 0 {
				t.Errorf("none is of %d to %d packages: %v", in, toBe, sizes)
			}
		}
		if kinds[putKind{in, in, 0, true}] == 0 {
			t.Errorf("of %d packages none are in already", in)
		}
	}
	for n := range 7 {
		if places[n] == 0 {
			t.Errorf("none differs at %d places: %v", n, places)
		}
	}
	for _, k := range []putKind{{2, 2, 0, false}, {2, 2, 6, false}, {2, 0, 6, false}, {0, 2, 6, false}} {
		if kinds[k] == 0 {
			t.Errorf("none is of the kind %v: %v", k, kinds)
		}
	}
}

// fallenDisks have a journal, of nothing or of some, and any number of places that are not as its packages say.
func fallenDisks(t *testing.T) []impl.Disk {
	t.Helper()
	out := []impl.Disk{}
	for i, d := range someDisks(t) {
		// 5 shares no divisor with how many disks of each list there are.
		if d.Has && i%5 == 0 {
			out = append(out, d)
		}
	}
	return append(out, slices.DeleteFunc(randomDisks(40), func(d impl.Disk) bool { return !d.Has })...)
}

func TestFallenDisksAreOfAllKinds(t *testing.T) {
	places, empty := map[int]int{}, map[bool]int{}
	for _, d := range fallenDisks(t) {
		places[len(differing(d.Files, wantFiles(d.Jour)))]++
		empty[len(d.Jour) == 0]++
	}
	for n := range 7 {
		if places[n] == 0 {
			t.Errorf("none has %d places to mend: %v", n, places)
		}
	}
	if empty[true] == 0 || empty[false] == 0 {
		t.Errorf("journals are of one kind: %v", empty)
	}
}

// fall is how many steps are done, and whether the next one is torn.
type fall struct {
	cut  int
	torn bool
}

// fallenAt are the ways to fall in so many steps: behind none, behind each, and behind one and two more than there are, each torn and not.
func fallenAt(steps int) []fall {
	out := []fall{}
	for cut := range steps + 3 {
		out = append(out, fall{cut, false}, fall{cut, true})
	}
	return out
}

// checkSteps asks for InstSteps, and tells them.
func checkSteps(t *testing.T, d impl.Disk, list []impl.Pkg) []impl.Step {
	t.Helper()
	got := impl.InstSteps(d, list)
	if want := wantSteps(d, list); !sameSteps(got, want) {
		t.Errorf("InstSteps(%v, %v) = %v, want %v", d, list, got, want)
	}
	return got
}

// checkNoSteps asks that nothing is put in.
func checkNoSteps(t *testing.T, d impl.Disk, list []impl.Pkg) {
	t.Helper()
	if got := checkSteps(t, d, list); len(got) != 0 {
		t.Errorf("InstSteps(%v, %v) = %v, not none", d, list, got)
	}
}

// checkMends asks for InstMends, and tells them.
func checkMends(t *testing.T, d impl.Disk) []impl.Step {
	t.Helper()
	got := impl.InstMends(d)
	if want := wantMends(d); !sameSteps(got, want) {
		t.Errorf("InstMends(%v) = %v, want %v", d, got, want)
	}
	return got
}

// checkTo asks whether there is a disk behind a fall, and that it is as the document says, and tells it.
func checkTo(t *testing.T, d impl.Disk, steps []impl.Step, at fall, want bool) impl.Disk {
	t.Helper()
	got, ok := impl.InstTo(d, steps, at.cut, at.torn)
	if behind, _ := wantTo(d, steps, at.cut, at.torn); ok != want || !sameDisk(got, behind) {
		t.Errorf("InstTo(%v, %v, %v) = %v, %v; want %v, %v", d, steps, at, got, ok, behind, want)
	}
	return got
}

// checkNoDisk asks that nothing and false are answered, wherever it would fall.
func checkNoDisk(t *testing.T, d impl.Disk, steps []impl.Step) {
	t.Helper()
	for _, at := range fallenAt(len(steps)) {
		if got := checkTo(t, d, steps, at, false); !sameDisk(got, impl.Disk{}) {
			t.Errorf("InstTo(%v, %v, %v) = %v, not nothing", d, steps, at, got)
		}
	}
}

// checkAll is the disk behind all of steps.
func checkAll(t *testing.T, d impl.Disk, steps []impl.Step) impl.Disk {
	t.Helper()
	return checkTo(t, d, steps, fall{cut: len(steps)}, true)
}

// checkMend asks whether a disk is mended, and that it is as the document says, and tells it.
func checkMend(t *testing.T, d impl.Disk, want bool) impl.Disk {
	t.Helper()
	got, ok := impl.InstMend(d)
	if mended, _ := wantMend(d); ok != want || !sameDisk(got, mended) {
		t.Errorf("InstMend(%v) = %v, %v; want %v, %v", d, got, ok, mended, want)
	}
	return got
}
