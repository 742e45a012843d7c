package tests

import (
	"fmt"
	"runtime"
	"slices"
	"sync"
	"testing"
	"time"

	"loop.example/purser/impl"
)

// worldCall is one choice of arguments for the functions of the chapter.
type worldCall struct {
	play  play
	world impl.World
	event impl.Event
}

// worldAnswer is what all functions of the chapter answer.
type worldAnswer struct {
	newOne, behind, played, synced impl.World
	isNew, isPlayed, ok, may       bool
}

func (c worldCall) ask() worldAnswer {
	a := worldAnswer{ok: impl.WorldOk(c.world), may: impl.WorldMay(c.world, c.event), behind: impl.WorldDo(c.world, c.event), synced: impl.WorldSync(c.world)}
	a.newOne, a.isNew = impl.WorldNew(c.play.root, c.play.bad)
	a.played, a.isPlayed = impl.WorldPlay(c.play.root, c.play.bad, c.play.events)
	return a
}

// want is, without the program, what ask answers.
func (c worldCall) want() worldAnswer {
	a := worldAnswer{ok: isWorld(c.world), may: wantMay(c.world, c.event), behind: wantHappened(c.world, c.event), synced: wantSync(c.world)}
	a.newOne, a.isNew = wantNew(c.play.root, c.play.bad)
	a.played, a.isPlayed = wantPlay(c.play.root, c.play.bad, c.play.events)
	return a
}

func (a worldAnswer) worlds() []impl.World {
	return []impl.World{a.newOne, a.behind, a.played, a.synced}
}

func (a worldAnswer) same(b worldAnswer) bool {
	return slices.EqualFunc(a.worlds(), b.worlds(), sameWorld) && a.isNew == b.isNew && a.isPlayed == b.isPlayed && a.ok == b.ok && a.may == b.may
}

func (a worldAnswer) clone() worldAnswer {
	a.newOne, a.behind, a.played, a.synced = cloneWorld(a.newOne), cloneWorld(a.behind), cloneWorld(a.played), cloneWorld(a.synced)
	return a
}

func (a worldAnswer) scribble() {
	for _, w := range a.worlds() {
		writeAll(worldMemory(w))
	}
}

func writeAll(all []memory) {
	for _, m := range all {
		m.write()
	}
}

func readMemory(all []memory) []string {
	out := []string{}
	for _, m := range all {
		out = append(out, m.read())
	}
	return out
}

func rootMemory(s impl.SigRoot) []memory {
	return []memory{memoryOf(s.Root.Keys, 77, show), memoryOf(s.By, 77, show)}
}

func indexMemory(s impl.SigIndex) []memory {
	return []memory{memoryOf(s.Index.Metas, impl.Meta{Name: 77, Ver: 77, Sum: 77}, show), memoryOf(s.By, 77, show)}
}

// worldMemory has each list by itself, so what is shown of a root, or an index, is not what stands in its lists.
func worldMemory(w impl.World) []memory {
	out := []memory{
		memoryOf(w.Bad, 77, show),
		memoryOf(w.Roots, impl.SigRoot{Root: impl.Root{Num: 77}}, func(s impl.SigRoot) string { return fmt.Sprint(s.Root.Num, s.Root.Need, len(s.Root.Keys), len(s.By)) }),
		memoryOf(w.Indexes, impl.SigIndex{Index: impl.Index{Num: 77}}, func(s impl.SigIndex) string {
			return fmt.Sprint(s.Index.Num, s.Index.Until, len(s.Index.Metas), len(s.By))
		}),
	}
	for _, s := range w.Roots {
		out = append(out, rootMemory(s)...)
	}
	for _, s := range w.Indexes {
		out = append(out, indexMemory(s)...)
	}
	out = append(out, rootMemory(impl.SigRoot{Root: w.Trust.Root})...)
	out = append(out, indexMemory(impl.SigIndex{Index: w.Trust.Index})...)
	return slices.Concat(out, pkgsMemory(w.Pkgs), pkgsMemory(w.Store), diskMemory(w.Disk))
}

func eventMemory(e impl.Event) []memory {
	return slices.Concat(pkgsMemory([]impl.Pkg{e.Pkg})[1:], rootMemory(e.Root), indexMemory(e.Index))
}

// memory is that of all lists of a call.
func (c worldCall) memory() []memory {
	out := append(worldMemory(c.world), memoryOf(c.play.root.Keys, 77, show), memoryOf(c.play.bad, 77, show))
	out = append(out, eventMemory(c.event)...)
	for _, e := range c.play.events {
		out = append(out, eventMemory(e)...)
	}
	return append(out, memoryOf(c.play.events, impl.Event{Kind: 77}, func(e impl.Event) string { return fmt.Sprint(e.Kind, e.A, e.B, e.C, e.Torn, e.Pkg.Name) }))
}

// withRoom is the same list with marks behind its end.
func withRoom[T any](list []T, marks ...T) []T {
	return append(slices.Clone(list), marks...)[:len(list)]
}

func roomyRoot(s impl.SigRoot) impl.SigRoot {
	s.Root.Keys, s.By = withRoom(s.Root.Keys, 4, 5, 6), withRoom(s.By, 4, 5, 6)
	return s
}

func roomySigIndex(s impl.SigIndex) impl.SigIndex {
	s.Index.Metas, s.By = withRoom(s.Index.Metas, impl.Meta{Name: 4, Ver: 5, Sum: 1}, impl.Meta{}), withRoom(s.By, 4, 5, 6)
	return s
}

func roomyList(list []impl.Pkg) []impl.Pkg {
	out, _ := roomyPkgs(list)
	return out
}

func roomyEvent(e impl.Event) impl.Event {
	e.Pkg, e.Root, e.Index = roomyList([]impl.Pkg{e.Pkg})[0], roomyRoot(e.Root), roomySigIndex(e.Index)
	return e
}

func roomyWorld(w impl.World) impl.World {
	w = cloneWorld(w)
	for i := range w.Roots {
		w.Roots[i] = roomyRoot(w.Roots[i])
	}
	for i := range w.Indexes {
		w.Indexes[i] = roomySigIndex(w.Indexes[i])
	}
	w.Roots, w.Indexes = withRoom(w.Roots, impl.SigRoot{Root: twoOfThree(9)}), withRoom(w.Indexes, impl.SigIndex{Index: plainIndex(9, 9)})
	w.Bad, w.Trust.Root = withRoom(w.Bad, 4, 5, 6), roomyRoot(impl.SigRoot{Root: w.Trust.Root}).Root
	w.Trust.Index = roomySigIndex(impl.SigIndex{Index: w.Trust.Index}).Index
	w.Pkgs, w.Store = roomyList(w.Pkgs), roomyList(w.Store)
	w.Disk = impl.Disk{Db: roomyList(w.Disk.Db), Files: withRoom(w.Disk.Files, 1, 2), Has: w.Disk.Has, Jour: roomyList(w.Disk.Jour)}
	return w
}

// roomy is the same call with marked room behind all of its lists.
func (c worldCall) roomy() worldCall {
	out := worldCall{play{root: cloneRoot(c.play.root), bad: withRoom(c.play.bad, 4, 5, 6)}, roomyWorld(c.world), roomyEvent(c.event)}
	out.play.root.Keys = withRoom(out.play.root.Keys, 4, 5, 6)
	for _, e := range c.play.events {
		out.play.events = append(out.play.events, roomyEvent(e))
	}
	out.play.events = withRoom(out.play.events, index(), mendAll())
	return out
}

// someEvents are of all kinds, some of which can be in a world.
func someEvents(t *testing.T, w impl.World) []impl.Event {
	t.Helper()
	out := append(published(w), publishAll(t, "c2 0:1 4:4 a1 b1", "d4", "a1")...)
	out = append(out, index(), publishRoot(2, 1, 2, 5), publishRoot(3, 4, 5, 6), impl.Event{Kind: evTick}, impl.Event{}, mendAll(), fallMending(fall{1, true}))
	for place := range w.Pkgs {
		out = append(out, bringPkg(place), bringSpoilt(place, 3, 1))
	}
	for name := 1; name <= 4; name++ {
		out = append(out, putIn(name), fallIn(name, fall{name, name%2 == 0}))
	}
	for i, e := range forged(w) {
		by := justBad(w)
		out = append(out, signedBy(e, by[i%len(by)]), signedBy(e, []int{1, 2}))
	}
	return out
}

// worldCalls are calls of all kinds of worlds and events, and some of which a world, a play, or an event is not ok.
func worldCalls(t *testing.T) []worldCall {
	t.Helper()
	out, all := []worldCall{}, plays(t)
	for i, w := range append(playedWorlds(t), fullWorlds(t)...) {
		events := someEvents(t, w)
		p := all[i%len(all)]
		if i%40 > 0 {
			p.events = p.events[:min(len(p.events), i%20)]
		}
		out = append(out, worldCall{p, w, events[i%len(events)]}, worldCall{play{}, w, events[i*7%len(events)]})
	}
	odd := slices.DeleteFunc(oddWorlds(t), func(w impl.World) bool { return !isShortWorld(w) })
	events := someEvents(t, grownWorld(t))
	for i, w := range odd {
		if i%9 == 0 {
			p := startOf(often(58+i%5, index())...)
			p.bad = []int{2 + i%2, 3 + i%2}
			out = append(out, worldCall{p, w, events[i/9%len(events)]})
		}
	}
	return out
}

// isShortWorld leaves out worlds of which a copy would be long.
func isShortWorld(w impl.World) bool {
	short := len(w.Roots) <= 20 && len(w.Indexes) <= 40 && len(w.Pkgs) <= 20 && len(w.Bad) <= 20 && len(w.Store) <= 20
	return short && diskCall{disk: w.Disk}.isShort()
}

func TestWorldCallsAreOfAllKinds(t *testing.T) {
	kinds := map[string]int{}
	for _, c := range worldCalls(t) {
		a := c.want()
		kinds[fmt.Sprint("event ", c.event.Kind, a.ok, !sameWorld(a.behind, c.world))]++
		kinds[fmt.Sprint("may ", a.ok, a.may)]++
		kinds[fmt.Sprint("play ", a.isNew, a.isPlayed, len(c.play.events) > 50)]++
		kinds[fmt.Sprint("sync ", a.ok, len(a.synced.Store) > 3, a.synced.Trust.Has)]++
	}
	want := []string{
		"may true true", "may true false", "may false false", "play true true true", "play true true false", "play true false true", "play false false false", "play false false true",
		"sync true true true", "sync true false true", "sync false false false", "event 0 true false",
	}
	for kind := evPub; kind <= evMend; kind++ {
		want = append(want, fmt.Sprint("event ", kind, " true true"), fmt.Sprint("event ", kind, " false true"))
	}
	for _, kind := range want {
		if kinds[kind] == 0 {
			t.Errorf("no call is of the kind %q: %v", kind, kinds)
		}
	}
}

func TestWorldsWriteIntoNoArgument(t *testing.T) {
	for _, c := range worldCalls(t) {
		roomy := c.roomy()
		all := roomy.memory()
		were := readMemory(all)
		if got := roomy.ask(); !got.same(c.want()) {
			t.Errorf("room behind %v is seen: %v", c, got)
		}
		if !slices.Equal(readMemory(all), were) {
			t.Errorf("an argument was changed: %v", c)
		}
	}
}

// What is written into an answer, and into its room, is in no argument, and in no other answer.
func TestWorldAnswersShareNoMemory(t *testing.T) {
	for _, c := range worldCalls(t) {
		roomy := c.roomy()
		all := roomy.memory()
		were := readMemory(all)
		first, second := roomy.ask(), roomy.ask()
		first.scribble()
		if !slices.Equal(readMemory(all), were) || !second.same(c.want()) || !roomy.ask().same(c.want()) {
			t.Errorf("an answer of %v shares memory", c)
		}
	}
}

// What is written into an argument later is in no answer: nobody reads it any more.
func TestWorldAnswersOutliveTheirArguments(t *testing.T) {
	for _, c := range worldCalls(t) {
		want, given := c.want().clone(), c.roomy()
		got := given.ask()
		writeAll(given.memory())
		if !got.same(want) {
			t.Errorf("an answer of %v hangs on an argument: %v", c, got)
		}
	}
}

func checkWorldApart(t *testing.T, ask func() impl.World) {
	t.Helper()
	checkApart(t, func() []memory { return worldMemory(ask()) })
}

func checkCallApart(t *testing.T, c worldCall) {
	t.Helper()
	checkWorldApart(t, func() impl.World { return impl.WorldDo(c.world, c.event) })
	checkWorldApart(t, func() impl.World { return impl.WorldSync(c.world) })
	checkWorldApart(t, func() impl.World { w, _ := impl.WorldNew(c.play.root, c.play.bad); return w })
	checkWorldApart(t, func() impl.World {
		w, _ := impl.WorldPlay(c.play.root, c.play.bad, c.play.events)
		return w
	})
}

func TestWorldAnswersHaveListsOfTheirOwn(t *testing.T) {
	for i, c := range worldCalls(t) {
		// 11 shares no divisor with how many of each kind there are.
		if i%11 == 0 && len(c.world.Indexes) < 10 {
			checkCallApart(t, c)
		}
	}
}

// Each kind of event makes lists, of what is brought, and of what is there; all is published, trusted, kept, and in.
func TestEachEventHasListsOfItsOwn(t *testing.T) {
	w := grownWorld(t)
	w = checkHappenAll(t, w, bringIndex(w.Indexes[1]), bringPkg(0), bringPkg(1), fallIn(2, fall{3, true}))
	for _, e := range append(someEvents(t, w), putIn(1)) {
		checkCallApart(t, worldCall{startOf(e, index(), e), w, e})
	}
}

// One list that is everywhere, and of which several others have parts, is many lists in what is answered.
func TestWorldsTakeOneListTwice(t *testing.T) {
	keys, needs, files := []int{1, 2, 3, 4}, []impl.Dep{{Name: 3, Least: 1}, {Name: 4, Least: 1}}, []impl.File{{Path: 0, Data: 1}, {Path: 3, Data: 2}}
	list := []impl.Pkg{{Name: 1, Ver: 1, Files: files[:1], Deps: needs}, {Name: 3, Ver: 1, Files: files[1:], Deps: needs[1:]}, {Name: 4, Ver: 1, Files: files[:0], Deps: needs[:1]}}
	x := wantIndex(1, 6, list)
	w := impl.World{
		Roots:   []impl.SigRoot{{Root: impl.Root{Num: 1, Keys: keys[:3], Need: 2}, By: keys[:3]}, {Root: impl.Root{Num: 2, Keys: keys, Need: 2}, By: keys}},
		Indexes: []impl.SigIndex{{Index: x, By: keys[:3]}, {Index: impl.Index{Num: 2, Until: 6, Metas: x.Metas}, By: keys[1:]}},
		Pkgs:    list, Bad: keys[:1], Trust: trusting(impl.Root{Num: 1, Keys: keys[:3], Need: 2}, x), Store: list,
		Disk: impl.Disk{Db: list, Files: wantFiles(list), Has: true, Jour: list},
	}
	was, all := cloneWorld(w), append(worldMemory(w), memoryOf(keys, 77, show))
	were := readMemory(all)
	events := append(someEvents(t, w), impl.Event{Kind: evPub, Pkg: impl.Pkg{Name: 2, Ver: 5, Files: files, Deps: needs}}, impl.Event{Kind: evRoot, Root: w.Roots[1], Index: w.Indexes[1]})
	for _, e := range events {
		checkHappen(t, w, e)
		checkCallApart(t, worldCall{play{w.Roots[0].Root, keys[:1], []impl.Event{e, e, index(), bringRoot(w.Roots[0])}}, w, e})
		if !slices.Equal(readMemory(all), were) || !sameWorld(w, was) {
			t.Fatalf("an answer of %v and %v shares memory", w, e)
		}
	}
	checkSync(t, w)
}

// An answer that hung on what was asked ahead of it would be the elder one behind a change of an argument.
func TestWorldsFollowTheirArguments(t *testing.T) {
	w := cloneWorld(grownWorld(t))
	e := bringIndex(cloneSigIndex(w.Indexes[1]))
	for range 3 {
		checkChange(t, w, e)
		e.Index.By[0] = 1
		checkMay(t, w, e, false)
		checkNothing(t, w, e)
		w.Bad = []int{1, 3, 4}
		checkWorldOk(t, w, false)
		w.Bad = []int{3}
		w.Indexes[1].By[0] = 1
		checkMay(t, w, e, true)
		checkChange(t, w, e)
		e.Index.Index.Metas[0].Sum++
		checkNothing(t, w, e)
		e.Index.Index.Metas[0].Sum--
		w.Pkgs[0].Files[0].Data++
		checkSync(t, w)
		checkHappen(t, w, index())
		w.Pkgs[0].Files[0].Data--
		w.Now = 9
		checkNothing(t, w, e)
		w.Now = 2
		e.Index.By[0], w.Indexes[1].By[0] = 2, 2
		checkSync(t, w)
	}
}

func TestWorldsKeepNothingBetweenCalls(t *testing.T) {
	calls := worldCalls(t)
	var group sync.WaitGroup
	for range 4 {
		group.Go(func() {
			for _, c := range calls {
				if got := c.ask(); !got.same(c.want()) {
					t.Errorf("%v answers %v", c, got)
				}
			}
		})
	}
	group.Wait()
}

// Who looks through what was published is gone when a call answers; one that has just answered may take a moment to end.
func TestWorldsLeaveNobodyBehind(t *testing.T) {
	calls, before := worldCalls(t), runtime.NumGoroutine()
	for _, c := range calls {
		c.ask()
	}
	for range 200 {
		if runtime.NumGoroutine() <= before {
			return
		}
		time.Sleep(10 * time.Millisecond)
	}
	t.Errorf("behind %d calls there are %d goroutines; there were %d", len(calls), runtime.NumGoroutine(), before)
}
