package tests

import (
	"slices"
	"testing"

	"loop.example/purser/impl"
)

func TestPlanForByHand(t *testing.T) {
	kept := []string{"a1 0:1", "a2 0:2 b2", "b1 1:7", "b2 1:1", "c1 1:9", "d1 2:1 a1"}
	checkPlanText(t, kept, nil, 1, "a2 0:2 b2", "b2 1:1")
	checkPlanText(t, kept, nil, 2, "b2 1:1")
	checkPlanText(t, kept, nil, 3, "c1 1:9")
	checkPlanText(t, kept, nil, 4, "a2 0:2 b2", "b2 1:1", "d1 2:1 a1")
	checkPlanText(t, kept, []string{"c1 1:9"}, 1)
	checkPlanText(t, kept, []string{"c2 3:9"}, 1, "a2 0:2 b2", "b2 1:1", "c2 3:9")
	checkPlanText(t, kept, []string{"a1 0:1"}, 3)
	checkPlanText(t, nil, nil, 1)
}

// What is in is as new as it can be behind any name, with all that this needs now, and stays if it is no longer needed.
func TestPlanForMakesAllNewer(t *testing.T) {
	checkPlanText(t, []string{"a1", "b3 c2", "c1", "c2"}, []string{"b1"}, 1, "a1", "b3 c2", "c2")
	checkPlanText(t, []string{"a2", "b1"}, []string{"a1 b1", "b1"}, 1, "a2", "b1")
	checkPlanText(t, []string{"a1", "b3 c2", "c1"}, []string{"b1"}, 1)
	checkPlanText(t, []string{"a1", "b3 c2"}, []string{"b1"}, 1)
	checkPlanText(t, []string{"a1", "b3 0:1"}, []string{"b1", "c1 0:2"}, 1)
	checkPlanText(t, []string{"a1", "b3 0:1", "c2 1:2"}, []string{"b1", "c1 0:2"}, 1, "a1", "b3 0:1", "c2 1:2")
}

// An elder version that would do is not taken if the newest does not.
func TestPlanForTakesNoElder(t *testing.T) {
	checkPlanText(t, []string{"a1", "a2 b1"}, nil, 1)
	checkPlanText(t, []string{"a1 0:1", "a2 0:1", "b1 1:1", "b2 0:1"}, []string{"a1 0:1"}, 2)
	checkPlanText(t, []string{"a1 b1", "b1", "b2 c1"}, nil, 1)
}

// One that is in is newer than what is kept, of the same version, and elder.
func TestPlanForOfOneThatIsIn(t *testing.T) {
	checkPlanText(t, []string{"a2 0:1", "a3 0:2"}, []string{"a4 0:3"}, 1, "a4 0:3")
	checkPlanText(t, []string{"a2 0:1", "a3 0:2"}, []string{"a3 0:3"}, 1, "a3 0:3")
	checkPlanText(t, []string{"a2 0:1", "a3 0:2 b1"}, []string{"a3 0:3"}, 1, "a3 0:3")
	checkPlanText(t, []string{"a2 0:1", "a3 0:2"}, []string{"a2 0:3"}, 1, "a3 0:2")
	checkPlanText(t, []string{"a2 0:1", "a3 0:2 b1"}, []string{"a2 0:3"}, 1)
	checkPlanText(t, []string{"b1 a4"}, []string{"a4 0:3"}, 2, "a4 0:3", "b1 a4")
	checkPlanText(t, []string{"a1", "b1 a4"}, []string{"a4 0:3"}, 2, "a4 0:3", "b1 a4")
	checkPlanText(t, []string{"a5 1:1", "b1 a4"}, []string{"a4 0:3"}, 2, "a5 1:1", "b1 a4")
	checkPlanText(t, []string{"b1 a5"}, []string{"a4 0:3"}, 2)
}

// A need is met, met by a version too small, or there is none of that name; one is needed by two.
func TestPlanForOfNeeds(t *testing.T) {
	checkPlanText(t, []string{"a1 b2", "b2"}, nil, 1, "a1 b2", "b2")
	checkPlanText(t, []string{"a1 b2", "b3"}, nil, 1, "a1 b2", "b3")
	checkPlanText(t, []string{"a1 b2", "b1"}, nil, 1)
	checkPlanText(t, []string{"a1 b2"}, nil, 1)
	checkPlanText(t, []string{"a1 c1", "b1 c2", "c2"}, []string{"a1 c1", "c1"}, 2, "a1 c1", "b1 c2", "c2")
	checkPlanText(t, []string{"a1 b1 c1", "b1 d1", "c1 d2", "d2"}, nil, 1, "a1 b1 c1", "b1 d1", "c1 d2", "d2")
	checkPlanText(t, []string{"a1 b1 c1", "b1 d1", "c1 d2", "d1"}, nil, 1)
	checkPlanText(t, []string{"a1 b1 c1", "b1 d1", "c1 d2"}, nil, 1)
}

func TestPlanForOfCircles(t *testing.T) {
	checkPlanText(t, []string{"a1 b1", "b1 a1"}, nil, 1, "a1 b1", "b1 a1")
	checkPlanText(t, []string{"a1 b1", "b1 a1"}, nil, 2, "a1 b1", "b1 a1")
	checkPlanText(t, []string{"a1 b1", "b1 a2"}, nil, 1)
	checkPlanText(t, []string{"a1 b1", "b1 c1", "c1 d1", "d1 a1"}, nil, 3, "a1 b1", "b1 c1", "c1 d1", "d1 a1")
	checkPlanText(t, []string{"a1 b1", "b1 c1", "c1 d1", "d1 a2"}, nil, 3)
	checkPlanText(t, []string{"a1 b1", "b1 c1", "c1 b1", "d1"}, nil, 1, "a1 b1", "b1 c1", "c1 b1")
	checkPlanText(t, []string{"a2 b2", "b2 a2"}, []string{"a1 b1", "b1 a1"}, 1, "a2 b2", "b2 a2")
	checkPlanText(t, []string{"a2 b2"}, []string{"a1 b1", "b1 a1"}, 1)
	checkPlanText(t, []string{"d1"}, []string{"a1 b1", "b1 a1"}, 4, "a1 b1", "b1 a1", "d1")
}

// planKind is why there is no plan, or what it does.
func planKind(c planCase, name int) string {
	list, all := chosen(c.store, c.have, name)
	switch {
	case !all:
		return "neither"
	case isTogether(list) && samePkgs(list, c.have):
		return "the same"
	case isTogether(list) && len(list) == len(c.have):
		return "newer"
	case isTogether(list):
		return "more"
	}
	bare := clonePkgs(list)
	for i := range bare {
		bare[i].Files = nil
	}
	if isTogether(bare) {
		return "one place"
	}
	return "too small"
}

func TestPlanForOfAnyPackages(t *testing.T) {
	kinds := map[string]int{}
	for _, c := range somePlanCases() {
		for name := 1; name <= 4; name++ {
			_, want := wantPlan(c.store, c.have, name)
			checkPlan(t, c.store, c.have, name, want)
			kinds[planKind(c, name)]++
		}
	}
	for _, kind := range []string{"neither", "the same", "newer", "more", "one place", "too small"} {
		if kinds[kind] < 100 {
			t.Errorf("too few are of the kind %q: %v", kind, kinds)
		}
	}
}

func TestPlanForOfAllThatIsSmall(t *testing.T) {
	for _, c := range smallPlanCases(t) {
		for name := 1; name <= 4; name++ {
			_, want := wantPlan(c.store, c.have, name)
			checkPlan(t, c.store, c.have, name, want)
		}
	}
}

// P48
func TestPlanForHasAllThatWasIn(t *testing.T) {
	for _, c := range somePlanCases() {
		for name := 1; name <= 4; name++ {
			plan, ok := impl.PlanFor(c.store, c.have, name)
			if !ok {
				continue
			}
			if !impl.PlanOk(plan) || !slices.ContainsFunc(plan, func(p impl.Pkg) bool { return p.Name == name }) {
				t.Errorf("PlanFor(%v, %v, %d) = %v", c.store, c.have, name, plan)
			}
			for _, p := range c.have {
				if !slices.ContainsFunc(plan, func(q impl.Pkg) bool { return q.Name == p.Name && q.Ver >= p.Ver }) {
					t.Errorf("PlanFor(%v, %v, %d) = %v, where %v is gone", c.store, c.have, name, plan, p)
				}
			}
		}
	}
}

// P49
func TestPlanForHasTheNewerOnes(t *testing.T) {
	for _, c := range somePlanCases() {
		all := slices.Concat(c.store, c.have)
		for name := 1; name <= 4; name++ {
			plan, _ := impl.PlanFor(c.store, c.have, name)
			for _, p := range plan {
				if !slices.ContainsFunc(all, func(q impl.Pkg) bool { return samePkg(p, q) }) {
					t.Errorf("%v is neither among %v nor among %v", p, c.store, c.have)
				}
				if slices.ContainsFunc(all, func(q impl.Pkg) bool { return q.Name == p.Name && q.Ver > p.Ver }) {
					t.Errorf("a newer one than %v is among %v, or among %v", p, c.store, c.have)
				}
			}
		}
	}
}

// P50: beside the document's words, what is needed only by each other is not there.
func TestPlanForHasNothingElse(t *testing.T) {
	for _, c := range somePlanCases() {
		for name := 1; name <= 4; name++ {
			plan, _ := impl.PlanFor(c.store, c.have, name)
			for i, p := range plan {
				wasIn := slices.ContainsFunc(c.have, func(q impl.Pkg) bool { return q.Name == p.Name })
				if p.Name != name && !wasIn && !isNeeded(withoutPkg(plan, i), p.Name) {
					t.Errorf("PlanFor(%v, %v, %d) = %v, where nobody needs %v", c.store, c.have, name, plan, p)
				}
			}
		}
	}
	checkPlanText(t, []string{"a1", "b1 c1", "c1 b1", "d1"}, nil, 1, "a1")
	checkPlanText(t, []string{"a1", "b1 c1", "c1 b1", "d1"}, []string{"d1"}, 1, "a1", "d1")
}

// P51
func TestPlanForTwiceIsOnce(t *testing.T) {
	for _, c := range append(somePlanCases(), smallPlanCases(t)...) {
		for name := 1; name <= 4; name++ {
			plan, ok := impl.PlanFor(c.store, c.have, name)
			if !ok {
				continue
			}
			for _, p := range plan {
				again, ok := impl.PlanFor(c.store, plan, p.Name)
				if !ok || !samePkgs(again, plan) {
					t.Errorf("PlanFor(%v, %v, %d) = %v, %v", c.store, plan, p.Name, again, ok)
				}
			}
		}
	}
}

// behind is what is in behind two names.
func behind(c planCase, first, second int) ([]impl.Pkg, bool) {
	plan, ok := impl.PlanFor(c.store, c.have, first)
	if !ok {
		return nil, false
	}
	return impl.PlanFor(c.store, plan, second)
}

// P54
func TestPlanForOfTwoNamesInAnyOrder(t *testing.T) {
	both := 0
	for _, c := range append(somePlanCases(), smallPlanCases(t)...) {
		for a := 1; a <= 4; a++ {
			for b := a + 1; b <= 4; b++ {
				ab, abOk := behind(c, a, b)
				ba, baOk := behind(c, b, a)
				if !abOk || !baOk {
					continue
				}
				if !samePkgs(ab, ba) {
					t.Errorf("%v with %d and %d: %v or %v", c, a, b, ab, ba)
				}
				if len(ab) > len(c.have)+1 {
					both++
				}
			}
		}
	}
	if both == 0 {
		t.Error("no two names can be put in")
	}
}

// P55: a name is kept and not in, in and not kept, both, and neither.
func TestPlanForOfNamesThatAreThereOrNot(t *testing.T) {
	kinds := map[[2]bool]int{}
	for _, c := range append(somePlanCases(), smallPlanCases(t)...) {
		for name := 1; name <= 4; name++ {
			isName := func(p impl.Pkg) bool { return p.Name == name }
			kept, in := slices.ContainsFunc(c.store, isName), slices.ContainsFunc(c.have, isName)
			kinds[[2]bool{kept, in}]++
			if !kept && !in {
				checkPlan(t, c.store, c.have, name, false)
			}
			if in {
				if plan := checkPlan(t, nil, c.have, name, true); !samePkgs(plan, c.have) {
					t.Errorf("PlanFor(nil, %v, %d) = %v", c.have, name, plan)
				}
			}
		}
	}
	if len(kinds) != 4 {
		t.Errorf("just these came up: %v", kinds)
	}
}

// checkNoPlan asks that there is none, and that nothing is answered beside the false.
func checkNoPlan(t *testing.T, store, have []impl.Pkg, name int) {
	t.Helper()
	if got, ok := impl.PlanFor(store, have, name); ok || len(got) != 0 {
		t.Errorf("PlanFor(%v, %v, %d) = %v, %v; want nothing and false", store, have, name, got, ok)
	}
}

func TestPlanForOfNamesOutOfBounds(t *testing.T) {
	for _, name := range append([]int{-4, -1, 0, 5, 6}, farNumbers...) {
		for i, c := range somePlanCases() {
			if i%10 == 0 {
				checkNoPlan(t, c.store, c.have, name)
			}
		}
		checkNoPlan(t, nil, nil, name)
		checkNoPlan(t, readAll(t, "a1", "b1", "c1", "d1"), nil, name)
		checkNoPlan(t, nil, readAll(t, "a1", "b1", "c1", "d1"), name)
	}
	for name := 1; name <= 4; name++ {
		checkPlan(t, readAll(t, "a1", "b1", "c1", "d1"), nil, name, true)
		checkPlan(t, nil, readAll(t, "a1", "b1", "c1", "d1"), name, true)
	}
}

// What is kept need not be such that it can be in together, but in order, and ok.
func TestPlanForOfWhatIsKeptAndNotOk(t *testing.T) {
	for _, s := range oddStores(t) {
		for name := 1; name <= 4; name++ {
			checkNoPlan(t, s, nil, name)
			checkNoPlan(t, s, readAll(t, "a5", "b5", "c5", "d5"), name)
		}
	}
	for _, s := range apartLists(t) {
		checkPlan(t, s, readAll(t, "a5", "b5", "c5", "d5"), 1, true)
	}
}

// What is in and cannot be in together is refused, even if what is kept would mend it.
func TestPlanForOfWhatIsInAndCannotBe(t *testing.T) {
	full := readAll(t, "a5", "b5", "c5", "d5")
	for _, have := range append(oddStores(t), apartLists(t)...) {
		for name := 1; name <= 4; name++ {
			checkNoPlan(t, nil, have, name)
			checkNoPlan(t, full, have, name)
		}
	}
	for _, have := range orderedLists(t) {
		if !isTogether(have) {
			checkNoPlan(t, full, have, 1)
			checkNoPlan(t, have, have, 2)
		}
	}
}
