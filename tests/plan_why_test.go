package tests

import (
	"slices"
	"strings"
	"testing"

	"loop.example/purser/impl"
)

func TestPlanWhyByHand(t *testing.T) {
	checkWhy(t, nil, "fine\n")
	checkWhy(t, []impl.Pkg{}, "fine\n")
	for _, c := range []struct {
		want  string
		texts []string
	}{
		{"fine\n", []string{"a1"}},
		{"fine\n", []string{"a1 0:1 b1", "b1 1:1 a1"}},
		{"fine\n", []string{"a1 c2", "b1 c1", "c2"}},
		{"a2 beside a1\n", []string{"a1", "a2"}},
		{"a2 beside a1\na5 beside a2\nd4 beside d3\n", []string{"a1", "a2", "a5", "b1", "d3", "d4"}},
		{"a2 lacks b2\n", []string{"a2 b2"}},
		{"a2 lacks b2\n", []string{"a2 b2", "b1"}},
		{"a2 lacks b2\na2 lacks d1\nc1 lacks a3\n", []string{"a2 b2 d1", "b1", "c1 a3"}},
		{"b2 beside b1\n", []string{"a2 b2", "b1", "b2"}},
		{"b1 and a1 at 0\n", []string{"a1 0:1", "b1 0:1"}},
		{"b1 and a1 at 0\nb1 and a1 at 5\n", []string{"a1 0:1 5:1", "b1 0:2 5:2"}},
		{"b1 and a1 at 3\nc1 and a1 at 3\nd1 and a1 at 3\n", []string{"a1 3:1", "b1 3:1", "c1 3:1", "d1 3:1"}},
		{"d1 and b1 at 1\nd1 and a1 at 3\n", []string{"a1 3:1", "b1 1:1", "c1", "d1 1:1 3:1"}},
		{"a2 beside a1\na2 and a1 at 0\na3 beside a2\na3 and a1 at 0\n", []string{"a1 0:1", "a2 0:2", "a3 0:3"}},
		{"a1 lacks b2\na2 beside a1\na2 lacks c1\na2 and a1 at 0\nb1 lacks a3\nb1 and a1 at 0\nb1 and a2 at 4\n", []string{"a1 0:1 b2", "a2 0:2 4:4 b1 c1", "b1 0:3 4:5 a3"}},
	} {
		checkWhy(t, readAll(t, c.texts...), c.want)
	}
}

// P47
func TestPlanWhyIsFineJustIfTheyCanBeInTogether(t *testing.T) {
	for _, list := range orderedLists(t) {
		if got := impl.PlanWhy(list); (got == "fine\n") != impl.PlanOk(list) {
			t.Errorf("PlanOk(%v) = %v, and PlanWhy is %q", list, impl.PlanOk(list), got)
		}
	}
	for _, list := range apartLists(t) {
		if got := impl.PlanWhy(list); got == "fine\n" || strings.Count(got, "\n") != 1 {
			t.Errorf("PlanWhy(%v) = %q, want one line", list, got)
		}
	}
}

func TestPlanWhyOfAnyPackagesInOrder(t *testing.T) {
	most := 0
	for _, list := range orderedLists(t) {
		want := wantWhy(list)
		checkWhy(t, list, want)
		most = max(most, strings.Count(want, "\n"))
	}
	if most < 10 {
		t.Errorf("at most %d things are wrong", most)
	}
}

func TestPlanWhyOfWhatIsNotOk(t *testing.T) {
	for _, s := range oddStores(t) {
		checkWhy(t, s, "no packages\n")
	}
	for _, list := range orderedLists(t) {
		if len(list) > 1 {
			turned := slices.Clone(list)
			slices.Reverse(turned)
			checkWhy(t, turned, "no packages\n")
			checkWhy(t, append(slices.Clone(list), list[len(list)-1]), "no packages\n")
		}
	}
}

// P56
func TestPlanWhyIsLines(t *testing.T) {
	for _, list := range append(append(orderedLists(t), oddStores(t)...), apartLists(t)...) {
		got := impl.PlanWhy(list)
		if !strings.HasSuffix(got, "\n") || strings.HasPrefix(got, "\n") || strings.Contains(got, "\n\n") {
			t.Errorf("PlanWhy(%v) = %q", list, got)
		}
	}
}

// P56: each need of one package alone is a line.
func TestPlanWhyOfOnePackage(t *testing.T) {
	for _, p := range somePkgs() {
		checkWhy(t, []impl.Pkg{p}, wantWhy([]impl.Pkg{p}))
		if got := impl.PlanWhy([]impl.Pkg{p}); len(p.Deps) > 0 && strings.Count(got, " lacks ") != len(p.Deps) {
			t.Errorf("PlanWhy of %v is %q", p, got)
		}
		p.Deps = nil
		checkWhy(t, []impl.Pkg{p}, "fine\n")
	}
}
