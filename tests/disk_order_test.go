package tests

import (
	"testing"

	"loop.example/purser/impl"
)

// stepCase is a step, done or torn.
type stepCase struct {
	step impl.Step
	torn bool
}

// behindBoth is the disk behind one and then the other.
func behindBoth(t *testing.T, d impl.Disk, first, second stepCase) impl.Disk {
	t.Helper()
	for _, c := range []stepCase{first, second} {
		if c.torn {
			d = checkTear(t, d, c.step, true)
		} else {
			d = checkDo(t, d, c.step, true)
		}
	}
	return d
}

// isApart says whether two steps touch nothing that both touch: they are of two kinds, but a journal and its end, or at two places.
func isApart(a, b impl.Step) bool {
	if a.Kind == b.Kind {
		return a.Kind == kindFile && a.Path != b.Path
	}
	return !isOfJournal(a) || !isOfJournal(b)
}

func isOfJournal(s impl.Step) bool {
	return s.Kind == kindJour || s.Kind == kindDone
}

func TestStepsApartByHand(t *testing.T) {
	for _, c := range []struct {
		a, b int
		want bool
	}{{1, 2, true}, {1, 3, true}, {1, 4, false}, {2, 3, true}, {2, 4, true}, {3, 4, true}, {1, 1, false}, {2, 2, false}, {3, 3, false}, {4, 4, false}} {
		a, b := impl.Step{Kind: c.a}, impl.Step{Kind: c.b}
		if isApart(a, b) != c.want || isApart(b, a) != c.want {
			t.Errorf("steps of the kinds %d and %d: %v", c.a, c.b, !c.want)
		}
	}
}

func TestTwoStepsByHand(t *testing.T) {
	a, b := readAll(t, "a1 0:1"), readAll(t, "b1")
	d := impl.Disk{Db: b, Files: []int{-1, -1, -1, -1, -1, -1}}
	jour, done := stepCase{step: impl.Step{Kind: 1, Pkgs: a}}, stepCase{step: impl.Step{Kind: 4}}
	if got := behindBoth(t, d, jour, done); !sameDisk(got, d) {
		t.Errorf("a journal, and its end, leave %v", got)
	}
	if got := behindBoth(t, d, done, jour); !sameDisk(got, impl.Disk{Db: b, Files: d.Files, Has: true, Jour: a}) {
		t.Errorf("an end, and a journal, leave %v", got)
	}
	file, in := stepCase{step: impl.Step{Kind: 2, Path: 0, Data: 1}}, stepCase{step: impl.Step{Kind: 3, Pkgs: a}}
	for _, got := range []impl.Disk{behindBoth(t, d, file, in), behindBoth(t, d, in, file)} {
		if !sameDisk(got, impl.Disk{Db: a, Files: []int{1, -1, -1, -1, -1, -1}}) {
			t.Errorf("a file, and a package, leave %v", got)
		}
		checkDiskTrue(t, got, true)
	}
}

// P61
func TestTwoStepsInAnyOrder(t *testing.T) {
	steps, apart := fewSteps(t), 0
	for i, d := range fewDisks(t) {
		if i%3 > 0 {
			continue
		}
		for j, a := range steps {
			for _, b := range steps[j:] {
				if !isApart(a, b) {
					continue
				}
				first, second := stepCase{step: a}, stepCase{step: b}
				x, y := behindBoth(t, d, first, second), behindBoth(t, d, second, first)
				if !sameDisk(x, y) {
					t.Errorf("%v and %v on %v leave %v, the other way about %v", a, b, d, x, y)
				}
				apart++
			}
		}
	}
	if apart == 0 {
		t.Error("no two steps are apart")
	}
}

// P61: all data at two places.
func TestTwoFilesInAnyOrder(t *testing.T) {
	d := impl.Disk{Files: []int{-2, -1, 0, 5, 9, -2}, Has: true}
	for _, a := range fileSteps() {
		for _, b := range fileSteps() {
			if a.Path < b.Path {
				want := with(with(d.Files, a.Path, a.Data), b.Path, b.Data)
				x, y := behindBoth(t, d, stepCase{step: a}, stepCase{step: b}), behindBoth(t, d, stepCase{step: b}, stepCase{step: a})
				if e := (impl.Disk{Files: want, Has: true}); !sameDisk(x, e) || !sameDisk(y, e) {
					t.Errorf("%v and %v leave %v, the other way about %v", a, b, x, y)
				}
			}
		}
	}
}

// Done or torn, two that are apart leave the same in any order.
func TestTwoStepsTornInAnyOrder(t *testing.T) {
	steps := fewSteps(t)
	for i, d := range fewDisks(t) {
		if i%9 > 0 {
			continue
		}
		for j, a := range steps {
			for _, b := range steps[j:] {
				for kind := 1; kind < 4; kind++ {
					first, second := stepCase{a, kind&1 > 0}, stepCase{b, kind&2 > 0}
					x, y := behindBoth(t, d, first, second), behindBoth(t, d, second, first)
					if isApart(a, b) && !sameDisk(x, y) {
						t.Errorf("%v and %v on %v leave %v, the other way about %v", first, second, d, x, y)
					}
				}
			}
		}
	}
}

// Of two of one kind, at one place, and of a journal and its end, the later one counts alone.
func TestTwoStepsOfOneKind(t *testing.T) {
	steps, differ := fewSteps(t), 0
	for i, d := range fewDisks(t) {
		if i%3 > 0 {
			continue
		}
		for _, a := range steps {
			for _, b := range steps {
				if isApart(a, b) {
					continue
				}
				got, want := behindBoth(t, d, stepCase{step: a}, stepCase{step: b}), checkDo(t, d, b, true)
				if !sameDisk(got, want) {
					t.Errorf("%v and then %v on %v leave %v, not %v", a, b, d, got, want)
				}
				if !sameDisk(got, checkDo(t, d, a, true)) {
					differ++
				}
			}
		}
	}
	if differ == 0 {
		t.Error("no two steps leave something else in another order")
	}
}
