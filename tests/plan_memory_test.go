package tests

import (
	"slices"
	"sync"
	"testing"

	"loop.example/purser/impl"
)

// planCall is one choice of arguments for the functions of the chapter.
type planCall struct {
	store, have []impl.Pkg
	name        int
}

// planAnswer is what all functions of the chapter answer.
type planAnswer struct {
	plan       []impl.Pkg
	files      []int
	why        [2]string
	ok, isPlan bool
}

func (c planCall) ask() planAnswer {
	a := planAnswer{ok: impl.PlanOk(c.have), files: impl.PlanFiles(c.have), why: [2]string{impl.PlanWhy(c.have), impl.PlanWhy(c.store)}}
	a.plan, a.isPlan = impl.PlanFor(c.store, c.have, c.name)
	return a
}

// want is, without the program, what ask answers.
func (c planCall) want() planAnswer {
	a := planAnswer{ok: isTogether(c.have), files: wantFiles(c.have), why: [2]string{wantWhy(c.have), wantWhy(c.store)}}
	a.plan, a.isPlan = wantPlan(c.store, c.have, c.name)
	return a
}

func (a planAnswer) same(b planAnswer) bool {
	return samePkgs(a.plan, b.plan) && slices.Equal(a.files, b.files) && a.why == b.why && a.ok == b.ok && a.isPlan == b.isPlan
}

func (a planAnswer) clone() planAnswer {
	a.plan, a.files = clonePkgs(a.plan), slices.Clone(a.files)
	return a
}

func (a planAnswer) scribble() {
	scribblePkgs(a.plan)
	for i := range a.files[:cap(a.files)] {
		a.files[:cap(a.files)][i] = 77
	}
}

func (c planCall) clone() planCall {
	c.store, c.have = clonePkgs(c.store), clonePkgs(c.have)
	return c
}

// roomyPlanCall is the same call with marked room behind all of its lists, and looks at all of that room.
func roomyPlanCall(c planCall) (planCall, [2]storeRooms) {
	store, kept := roomyPkgs(c.store)
	have, in := roomyPkgs(c.have)
	return planCall{store, have, c.name}, [2]storeRooms{kept, in}
}

// planCalls are calls of which some have a plan, and some have arguments that are not ok.
func planCalls(t *testing.T) []planCall {
	t.Helper()
	out := []planCall{}
	for i, c := range somePlanCases() {
		if i%5 == 0 {
			out = append(out, planCall{c.store, c.have, 1 + i/5%4}, planCall{c.store, c.store, i / 5 % 6})
		}
	}
	for i, c := range smallPlanCases(t) {
		if i%11 == 0 {
			out = append(out, planCall{c.store, c.have, 1 + i%3})
		}
	}
	full := readAll(t, "a5", "b5 0:1", "c5 a1 b1", "d5")
	for i, list := range append(oddStores(t), apartLists(t)...) {
		if len(list) <= 20 {
			out = append(out, planCall{list, full, 1 + i%4}, planCall{full, list, 1 + i%4})
		}
	}
	return out
}

func TestPlanCallsAreOfAllKinds(t *testing.T) {
	kinds := map[[4]bool]int{}
	for _, c := range planCalls(t) {
		a := c.want()
		kinds[[4]bool{isStore(c.store), a.ok, a.isPlan, len(a.plan) > len(c.have)}]++
	}
	for _, kind := range [][4]bool{
		{true, true, true, true}, {true, true, true, false}, {true, true, false, false}, {true, false, false, false}, {false, true, false, false},
	} {
		if kinds[kind] == 0 {
			t.Errorf("no call is of the kind %v: %v", kind, kinds)
		}
	}
}

func TestPlansWriteIntoNoArgument(t *testing.T) {
	for _, c := range planCalls(t) {
		roomy, rooms := roomyPlanCall(c)
		kept, in := rooms[0].clone(), rooms[1].clone()
		if got := roomy.ask(); !got.same(c.want()) {
			t.Errorf("room behind %v is seen: %v", c, got)
		}
		if !rooms[0].same(kept) || !rooms[1].same(in) {
			t.Errorf("an argument was changed: %v", c)
		}
	}
}

// What is written into an answer, and into its room, is in no argument, and in no other answer.
func TestPlanAnswersShareNoMemory(t *testing.T) {
	for _, c := range planCalls(t) {
		roomy, rooms := roomyPlanCall(c)
		kept, in := rooms[0].clone(), rooms[1].clone()
		first, second := roomy.ask(), roomy.ask()
		first.scribble()
		if !rooms[0].same(kept) || !rooms[1].same(in) || !second.same(c.want()) || !roomy.ask().same(c.want()) {
			t.Errorf("an answer of %v shares memory", c)
		}
	}
}

// What is written into an argument later is in no answer.
func TestPlanAnswersOutliveTheirArguments(t *testing.T) {
	for _, c := range planCalls(t) {
		want := c.clone().want().clone()
		given := c.clone()
		got := given.ask()
		scribblePkgs(given.store)
		scribblePkgs(given.have)
		if !got.same(want) {
			t.Errorf("an answer of %v hangs on an argument: %v", c, got)
		}
	}
}

func TestPlanAnswersHaveListsOfTheirOwn(t *testing.T) {
	for _, c := range planCalls(t) {
		checkListsApart(t, c.clone().ask().plan)
	}
}

// One list that several packages have, kept and in, is not one list any more in what is answered.
func TestPlansTakeOneListTwice(t *testing.T) {
	room := []impl.Dep{{Name: 3, Least: 1}, {Name: 4, Least: 1}, {Name: 4, Least: 5}}
	files := []impl.File{{Path: 0, Data: 1}, {Path: 3, Data: 2}, {Path: 4, Data: 3}}
	list := []impl.Pkg{
		{Name: 1, Ver: 1, Files: files[:1], Deps: room[:2]}, {Name: 2, Ver: 1, Files: files[1:2], Deps: room[:2]},
		{Name: 3, Ver: 1, Files: files[2:], Deps: room[1:2]}, {Name: 4, Ver: 1, Files: files[:0], Deps: room[:1]},
	}
	wereNeeds, wereFiles := slices.Clone(room), slices.Clone(files)
	for name := 1; name <= 4; name++ {
		for _, c := range []planCall{{list, nil, name}, {nil, list, name}, {list, list, name}, {list, list[2:], name}, {list[:2], list[2:], name}} {
			if _, ok := wantPlan(c.store, c.have, name); ok {
				checkListsApart(t, checkPlan(t, c.store, c.have, name, true))
			}
			if !slices.Equal(room, wereNeeds) || !slices.Equal(files, wereFiles) {
				t.Fatalf("an answer of %v shares memory", c)
			}
		}
	}
}

// An answer that hung on what was asked ahead of it would be the elder one behind a change of an argument.
func TestPlansFollowTheirArguments(t *testing.T) {
	store, have := readAll(t, "a2 0:2 b1", "b2 1:1"), readAll(t, "a1 0:1", "c1 2:1")
	for range 3 {
		checkPlan(t, store, have, 1, true)
		checkPlanFiles(t, have, []int{1, -1, 1, -1, -1, -1})
		store[0].Deps[0].Least = 3
		checkPlan(t, store, have, 1, false)
		store[0].Deps[0].Least, store[1].Files[0].Path = 1, 2
		checkPlan(t, store, have, 1, false)
		store[1].Files[0].Path, have[0].Files[0].Path = 1, 2
		checkPlanOk(t, have, false)
		checkPlanFiles(t, have, nil)
		checkWhy(t, have, "c1 and a1 at 2\n")
		have[0].Files[0].Path, have[0].Ver = 0, 3
		checkPlan(t, store, have, 1, true)
		have[0].Ver = 1
	}
}

func TestPlansKeepNothingBetweenCalls(t *testing.T) {
	calls := planCalls(t)
	var group sync.WaitGroup
	for range 4 {
		group.Go(func() {
			for _, c := range calls {
				if got := c.ask(); !got.same(c.want()) {
					t.Errorf("%v answers %v", c, got)
				}
			}
		})
	}
	group.Wait()
}
