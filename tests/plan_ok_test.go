package tests

import (
	"slices"
	"testing"

	"loop.example/purser/impl"
)

func TestPlanOkByHand(t *testing.T) {
	checkPlanOk(t, nil, true)
	checkPlanOk(t, []impl.Pkg{}, true)
	for _, texts := range [][]string{
		{"a1"}, {"d5"}, {"a1 0:1 5:9"}, {"a1", "b1"}, {"a5", "b1", "c3", "d1"}, {"a1 b1", "b1"}, {"a1 b1", "b5"}, {"a1 b5", "b5"}, {"a1", "d1 a1"},
		{"a1 b1", "b1 a1"}, {"a1 b1", "b1 c1", "c1 d1", "d1 a1"}, {"a1 c2", "b1 c1", "c2"}, {"a1 b1 c1", "b1 a1 c1", "c1 a1 b1"},
		{"a1 0:1", "b1 1:1"}, {"a1 0:1 1:1", "b1 2:1 3:1", "c1 4:1 5:1", "d1"}, {"a1 0:1 2:1", "b1 1:1 3:1"},
	} {
		checkPlanOk(t, readAll(t, texts...), true)
	}
	for _, list := range apartLists(t) {
		checkPlanOk(t, list, false)
	}
}

func TestPlanOkOfAnyPackagesInOrder(t *testing.T) {
	yes, no := 0, 0
	for _, list := range orderedLists(t) {
		want := isTogether(list)
		checkPlanOk(t, list, want)
		if want {
			yes++
		} else {
			no++
		}
	}
	if yes < 1000 || no < 1000 {
		t.Errorf("%d lists can be in together, and %d cannot", yes, no)
	}
}

// What can be in together in order cannot in another order, nor with one of it twice.
func TestPlanOkOfWhatIsNotInOrder(t *testing.T) {
	for _, s := range oddStores(t) {
		checkPlanOk(t, s, false)
	}
	for _, list := range togetherLists(t) {
		for i := range list {
			checkPlanOk(t, slices.Insert(slices.Clone(list), i, list[i]), false)
			if i > 0 {
				turned := slices.Clone(list)
				turned[i-1], turned[i] = turned[i], turned[i-1]
				checkPlanOk(t, turned, false)
			}
		}
	}
}

// A package that is not ok by itself cannot be in, with nothing else wrong.
func TestPlanOkOfPackagesThatAreNotOk(t *testing.T) {
	for _, odd := range oddPkgs() {
		checkPlanOk(t, []impl.Pkg{odd}, false)
		checkPlanOk(t, append(readAll(t, "a1"), odd), false)
		checkPlanOk(t, append([]impl.Pkg{odd}, readAll(t, "c1")...), false)
	}
	for _, p := range somePkgs() {
		checkPlanOk(t, []impl.Pkg{p}, len(p.Deps) == 0)
	}
}

// A need is met just from its version on, wherever what is needed stands.
func TestPlanOkOfEachNeed(t *testing.T) {
	for _, other := range []int{1, 3, 4} {
		for least := 1; least <= 5; least++ {
			for ver := 1; ver <= 5; ver++ {
				p := impl.Pkg{Name: 2, Ver: 2, Deps: []impl.Dep{{Name: other, Least: least}}}
				q := impl.Pkg{Name: other, Ver: ver}
				checkPlanOk(t, inOrder([]impl.Pkg{p, q}), ver >= least)
				checkPlanOk(t, []impl.Pkg{p}, false)
				for _, name := range []int{1, 3, 4} {
					if name != other {
						checkPlanOk(t, inOrder([]impl.Pkg{p, {Name: name, Ver: ver}}), false)
					}
				}
			}
		}
	}
}

// Two packages have one place just if a file of the one is where a file of the other is, whatever is in them.
func TestPlanOkOfAllPlaces(t *testing.T) {
	for _, a := range fileLists(3) {
		for _, b := range append(fileLists(3), fileLists(8)...) {
			apart := !slices.ContainsFunc(a, func(f impl.File) bool { return isAt(impl.Pkg{Files: b}, f.Path) })
			checkPlanOk(t, []impl.Pkg{{Name: 1, Ver: 1, Files: a}, {Name: 2, Ver: 1, Files: b}}, apart)
			checkPlanOk(t, []impl.Pkg{{Name: 1, Ver: 1, Files: a}, {Name: 2, Ver: 1}, {Name: 3, Ver: 1}, {Name: 4, Ver: 5, Files: b}}, apart)
		}
	}
}

// P46
func TestPlanOkHasAllThatIsNeeded(t *testing.T) {
	met := 0
	for _, list := range orderedLists(t) {
		if !impl.PlanOk(list) {
			continue
		}
		for i, p := range list {
			for _, d := range p.Deps {
				if !slices.ContainsFunc(list, func(q impl.Pkg) bool { return q.Name == d.Name && q.Ver >= d.Least }) {
					t.Errorf("%v of %v is not met", d, list)
				}
				met++
			}
			for _, q := range list[:i] {
				if p.Name == q.Name || slices.ContainsFunc(p.Files, func(f impl.File) bool { return isAt(q, f.Path) }) {
					t.Errorf("%v and %v are in together", p, q)
				}
			}
		}
	}
	if met == 0 {
		t.Error("nothing is needed")
	}
}

// P53
func TestPlanOkWithoutOne(t *testing.T) {
	needed, not := 0, 0
	for _, list := range togetherLists(t) {
		for i, p := range list {
			rest := withoutPkg(list, i)
			if isNeeded(rest, p.Name) {
				checkPlanOk(t, rest, false)
				needed++
			} else {
				checkPlanOk(t, rest, true)
				not++
			}
		}
	}
	if needed == 0 || not == 0 {
		t.Errorf("%d are needed, and %d are not", needed, not)
	}
}
