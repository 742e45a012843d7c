package tests

import (
	"slices"
	"sync"
	"testing"

	"loop.example/purser/impl"
)

// storeCall is one choice of arguments for the functions of the chapter.
type storeCall struct {
	trust impl.Trust
	store []impl.Pkg
	text  string
	name  int
}

// storeAnswer is what all functions of the chapter answer.
type storeAnswer struct {
	added, trimmed   []impl.Pkg
	newest           impl.Pkg
	lacks            []impl.Meta
	ok, isAdd, isNew bool
}

func (c storeCall) ask() storeAnswer {
	a := storeAnswer{ok: impl.StoreOk(c.store), trimmed: impl.StoreTrim(c.trust, c.store), lacks: impl.StoreLacks(c.trust, c.store)}
	a.added, a.isAdd = impl.StoreAdd(c.trust, c.store, c.text)
	a.newest, a.isNew = impl.StoreNewest(c.store, c.name)
	return a
}

// want is, without the program, what ask answers.
func (c storeCall) want() storeAnswer {
	a := storeAnswer{ok: isStore(c.store), trimmed: wantTrim(c.trust, c.store), lacks: wantLacks(c.trust, c.store)}
	a.added, a.isAdd = wantAdd(c.trust, c.store, c.text)
	a.newest, a.isNew = wantNewest(c.store, c.name)
	return a
}

func (a storeAnswer) same(b storeAnswer) bool {
	return samePkgs(a.added, b.added) && samePkgs(a.trimmed, b.trimmed) && samePkg(a.newest, b.newest) && slices.Equal(a.lacks, b.lacks) &&
		a.ok == b.ok && a.isAdd == b.isAdd && a.isNew == b.isNew
}

func (a storeAnswer) clone() storeAnswer {
	a.added, a.trimmed, a.newest, a.lacks = clonePkgs(a.added), clonePkgs(a.trimmed), clonePkg(a.newest), slices.Clone(a.lacks)
	return a
}

func (a storeAnswer) scribble() {
	scribblePkgs(a.added)
	scribblePkgs(a.trimmed)
	scribblePkg(a.newest)
	scribbleMetas(a.lacks)
}

// scribblePkgs writes over packages, over what they hold, and over all room behind them.
func scribblePkgs(list []impl.Pkg) {
	all := list[:cap(list)]
	for i := range all {
		scribblePkg(all[i])
		all[i] = impl.Pkg{Name: 77, Ver: 77}
	}
}

func (c storeCall) clone() storeCall {
	c.trust, c.store = cloneTrust(c.trust), clonePkgs(c.store)
	return c
}

// storeRooms are looks at all room that the lists of a call have.
type storeRooms struct {
	keys  []int
	metas []impl.Meta
	pkgs  []impl.Pkg
	files [][]impl.File
	deps  [][]impl.Dep
}

func (r storeRooms) clone() storeRooms {
	out := storeRooms{keys: slices.Clone(r.keys), metas: slices.Clone(r.metas), pkgs: clonePkgs(r.pkgs)}
	for i := range r.files {
		out.files, out.deps = append(out.files, slices.Clone(r.files[i])), append(out.deps, slices.Clone(r.deps[i]))
	}
	return out
}

func (r storeRooms) same(b storeRooms) bool {
	return slices.Equal(r.keys, b.keys) && slices.Equal(r.metas, b.metas) && samePkgs(r.pkgs, b.pkgs) &&
		slices.EqualFunc(r.files, b.files, slices.Equal) && slices.EqualFunc(r.deps, b.deps, slices.Equal)
}

// roomyStoreCall is the same call with marked room behind all of its lists, and behind those of each package.
func roomyStoreCall(c storeCall) (storeCall, storeRooms) {
	list, rooms := roomyPkgs(c.store)
	c.store = list
	c.trust.Root.Keys, rooms.keys = roomyKeys(c.trust.Root.Keys)
	c.trust.Index, rooms.metas = roomyIndex(c.trust.Index)
	return c, rooms
}

// roomyPkgs are the same packages with marked room behind them, and behind the lists of each.
func roomyPkgs(list []impl.Pkg) ([]impl.Pkg, storeRooms) {
	rooms := storeRooms{}
	marks := []impl.Pkg{{Name: 4, Ver: 5}, {Name: 1, Ver: 1, Files: []impl.File{{Path: 1, Data: 1}}}, {Name: 88, Ver: 88}}
	for _, p := range append(clonePkgs(list), marks...) {
		q, files, deps := roomy(p)
		rooms.pkgs, rooms.files, rooms.deps = append(rooms.pkgs, q), append(rooms.files, files), append(rooms.deps, deps)
	}
	return rooms.pkgs[:len(list)], rooms
}

// storeCalls are calls of which some add, some trim, and some have arguments that are not ok.
func storeCalls(t *testing.T) []storeCall {
	t.Helper()
	out, texts := []storeCall{}, twinTexts()
	for i, c := range someStoreCases() {
		text := texts[(i*7)%len(texts)]
		for _, m := range impl.StoreLacks(c.trust, c.store) {
			for _, list := range twins() {
				if p := list[5*m.Name+m.Ver-6]; wantMeta(p) == m {
					text = wantText(p)
				}
			}
		}
		out = append(out, storeCall{c.trust, c.store, text, 1 + i%4}, storeCall{c.trust, c.store, texts[(i*11)%len(texts)], i%7 - 1})
		if len(c.store) > 0 {
			out = append(out, storeCall{c.trust, c.store, wantText(c.store[i%len(c.store)]), c.store[i%len(c.store)].Name})
		}
	}
	for i, c := range smallCases(t) {
		out = append(out, storeCall{c.trust, c.store, smallTexts()[i%len(smallTexts())], 1 + i%4})
	}
	for i, s := range oddStores(t) {
		if len(s) <= 20 {
			out = append(out, storeCall{told(readAll(t, "a1", "b4", "d5")), s, "d5", 1 + i%4})
		}
	}
	for i, v := range oddTrusts() {
		out = append(out, storeCall{v, mixed(0x8421, 0x421), texts[i%len(texts)], 1 + i%4})
	}
	return out
}

func TestStoreCallsAreOfAllKinds(t *testing.T) {
	kinds := map[[6]bool]int{}
	for _, c := range storeCalls(t) {
		a := c.want()
		kinds[[6]bool{a.ok, isTrust(c.trust) && c.trust.Has, a.isAdd, len(a.trimmed) > 0, len(a.lacks) > 0, a.isNew}]++
	}
	for _, kind := range [][6]bool{
		{true, true, true, true, true, true}, {true, true, true, false, true, false}, {true, true, false, true, true, true}, {true, true, false, true, false, true},
		{true, true, false, false, true, true}, {true, true, false, false, false, false}, {true, false, false, false, false, true}, {false, true, false, false, false, false},
	} {
		if kinds[kind] == 0 {
			t.Errorf("no call is of the kind %v: %v", kind, kinds)
		}
	}
}

func TestStoreWritesIntoNoArgument(t *testing.T) {
	for _, c := range storeCalls(t) {
		roomy, rooms := roomyStoreCall(c)
		were := rooms.clone()
		if got := roomy.ask(); !got.same(c.want()) {
			t.Errorf("room behind %v is seen: %v", c, got)
		}
		if !rooms.same(were) {
			t.Errorf("an argument was changed: %v", c)
		}
	}
}

// What is written into an answer, and into its room, is in no argument, and in no other answer.
func TestStoreAnswersShareNoMemory(t *testing.T) {
	for _, c := range storeCalls(t) {
		roomy, rooms := roomyStoreCall(c)
		were := rooms.clone()
		first, second := roomy.ask(), roomy.ask()
		first.scribble()
		if !rooms.same(were) || !second.same(c.want()) || !roomy.ask().same(c.want()) {
			t.Errorf("an answer of %v shares memory", c)
		}
	}
}

// What is written into an argument later is in no answer.
func TestStoreAnswersOutliveTheirArguments(t *testing.T) {
	for _, c := range storeCalls(t) {
		want := c.clone().want().clone()
		given := c.clone()
		got := given.ask()
		scribbleKeys(given.trust.Root.Keys)
		scribbleMetas(given.trust.Index.Metas)
		scribblePkgs(given.store)
		if !got.same(want) {
			t.Errorf("an answer of %v hangs on an argument: %v", c, got)
		}
	}
}

// checkListsApart writes over what is behind the end, then over one list behind the other, and asks each time that the others are as they were.
func checkListsApart(t *testing.T, list []impl.Pkg) {
	t.Helper()
	was := clonePkgs(list)
	scribblePkgs(list[len(list):])
	if !samePkgs(list, was) {
		t.Errorf("%v shares memory with what is behind its end", was)
	}
	for i := range list {
		scribblePkg(impl.Pkg{Files: list[i].Files})
		if !slices.Equal(list[i].Deps, was[i].Deps) || !samePkgs(list[i+1:], was[i+1:]) {
			t.Errorf("files of %v share memory in %v", was[i], was)
		}
		scribblePkg(impl.Pkg{Deps: list[i].Deps})
		if !samePkgs(list[i+1:], was[i+1:]) {
			t.Errorf("needs of %v share memory in %v", was[i], was)
		}
	}
}

func TestStoreAnswersHaveListsOfTheirOwn(t *testing.T) {
	for _, c := range storeCalls(t) {
		a := c.clone().ask()
		checkListsApart(t, a.added)
		checkListsApart(t, a.trimmed)
		checkListsApart(t, []impl.Pkg{a.newest})
	}
}

// One list that several packages have is not one list any more in what is answered.
func TestStoreTakesOneListTwice(t *testing.T) {
	room := []impl.File{{Path: 0, Data: 1}, {Path: 3, Data: 2}, {Path: 4, Data: 3}, {Path: 5, Data: 4}}
	needs := []impl.Dep{{Name: 3, Least: 1}, {Name: 4, Least: 5}}
	var s []impl.Pkg
	for i := range 5 {
		s = append(s, impl.Pkg{Name: 1, Ver: 1 + i, Files: room[i%3 : i%3+i%2+1], Deps: needs[:i%3]})
	}
	s = append(s, impl.Pkg{Name: 2, Ver: 1, Files: room[:2], Deps: needs})
	v := told(append(slices.Clone(s), mustRead(t, "d1 0:1")))
	wereFiles, wereNeeds := slices.Clone(room), slices.Clone(needs)
	for _, text := range []string{"d1 0:1", "d2", wantText(s[0])} {
		checkListsApart(t, checkAdd(t, v, s, text, text == "d1 0:1"))
		checkListsApart(t, checkTrim(t, v, s, s))
		p, ok := impl.StoreNewest(s, 2)
		if !ok || !samePkg(p, s[5]) {
			t.Errorf("StoreNewest(%v, 2) = %v, %v", s, p, ok)
		}
		checkListsApart(t, []impl.Pkg{p})
		if !slices.Equal(room, wereFiles) || !slices.Equal(needs, wereNeeds) {
			t.Fatalf("an answer of %v shares memory", s)
		}
	}
}

// An answer that hung on what was asked ahead of it would be the elder one behind a change of an argument.
func TestStoreFollowsItsArguments(t *testing.T) {
	s := readAll(t, "a1 0:1", "a2", "c1")
	v := told(s)
	for range 3 {
		checkTrim(t, v, s, s)
		checkNewest(t, s, 1, s[1], true)
		s[0].Files[0].Data = 2
		checkTrim(t, v, s, s[1:])
		checkLacks(t, v, s, v.Index.Metas[:1])
		s[1].Ver = 4
		checkNewest(t, s, 1, s[1], true)
		checkAdd(t, v, s, "a2", true)
		v.Index.Metas[1].Sum++
		checkAdd(t, v, s, "a2", false)
		s[1].Ver = 1
		checkStoreOk(t, s, false)
		checkTrim(t, v, s, nil)
		v.Index.Metas[1].Sum--
		s[0].Files[0].Data, s[1].Ver = 1, 2
	}
}

func TestStoreKeepsNothingBetweenCalls(t *testing.T) {
	calls := storeCalls(t)
	var group sync.WaitGroup
	for range 4 {
		group.Go(func() {
			for _, c := range calls {
				if got := c.ask(); !got.same(c.want()) {
					t.Errorf("%v answers %v", c, got)
				}
			}
		})
	}
	group.Wait()
}
