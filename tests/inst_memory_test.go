package tests

import (
	"fmt"
	"runtime"
	"slices"
	"sync"
	"testing"
	"time"

	"loop.example/purser/impl"
)

// instCall is one choice of arguments for the functions of the chapter.
type instCall struct {
	disk  impl.Disk
	list  []impl.Pkg
	steps []impl.Step
	at    fall
}

// instAnswer is what all functions of the chapter answer.
type instAnswer struct {
	steps, mends   []impl.Step
	to, mended     impl.Disk
	isTo, isMended bool
}

func (c instCall) ask() instAnswer {
	a := instAnswer{steps: impl.InstSteps(c.disk, c.list), mends: impl.InstMends(c.disk)}
	a.to, a.isTo = impl.InstTo(c.disk, c.steps, c.at.cut, c.at.torn)
	a.mended, a.isMended = impl.InstMend(c.disk)
	return a
}

// want is, without the program, what ask answers.
func (c instCall) want() instAnswer {
	a := instAnswer{steps: wantSteps(c.disk, c.list), mends: wantMends(c.disk)}
	a.to, a.isTo = wantTo(c.disk, c.steps, c.at.cut, c.at.torn)
	a.mended, a.isMended = wantMend(c.disk)
	return a
}

func (a instAnswer) same(b instAnswer) bool {
	return sameSteps(a.steps, b.steps) && sameSteps(a.mends, b.mends) && sameDisk(a.to, b.to) && sameDisk(a.mended, b.mended) &&
		a.isTo == b.isTo && a.isMended == b.isMended
}

func (a instAnswer) clone() instAnswer {
	a.steps, a.mends, a.to, a.mended = cloneSteps(a.steps), cloneSteps(a.mends), cloneDisk(a.to), cloneDisk(a.mended)
	return a
}

func (a instAnswer) scribble() {
	scribbleSteps(a.steps)
	scribbleSteps(a.mends)
	scribbleDisk(a.to)
	scribbleDisk(a.mended)
}

// scribbleSteps writes over steps, over their packages, and over all room behind them.
func scribbleSteps(steps []impl.Step) {
	all := steps[:cap(steps)]
	for i := range all {
		scribblePkgs(all[i].Pkgs)
		all[i] = impl.Step{Kind: 77, Path: 77, Data: 77}
	}
}

func (c instCall) clone() instCall {
	return instCall{cloneDisk(c.disk), clonePkgs(c.list), cloneSteps(c.steps), c.at}
}

// instRooms are looks at all room that the lists of a call have.
type instRooms struct {
	disk  diskRooms
	list  storeRooms
	steps []impl.Step
	pkgs  []storeRooms
}

func (r instRooms) clone() instRooms {
	out := instRooms{disk: r.disk.clone(), list: r.list.clone(), steps: cloneSteps(r.steps)}
	for _, room := range r.pkgs {
		out.pkgs = append(out.pkgs, room.clone())
	}
	return out
}

func (r instRooms) same(b instRooms) bool {
	return r.disk.same(b.disk) && r.list.same(b.list) && sameSteps(r.steps, b.steps) && slices.EqualFunc(r.pkgs, b.pkgs, storeRooms.same)
}

// roomyInstCall is the same call with marked room behind all of its lists.
func roomyInstCall(c instCall) (instCall, instRooms) {
	r := instRooms{}
	room, look := roomyDiskCall(diskCall{disk: c.disk})
	c.disk, r.disk = room.disk, look
	c.list, r.list = roomyPkgs(c.list)
	marks := []impl.Step{{Kind: kindDone}, {Kind: kindFile, Path: 1, Data: 1}, {Kind: 88}}
	for _, s := range append(cloneSteps(c.steps), marks...) {
		pkgs, look := roomyPkgs(s.Pkgs)
		s.Pkgs = pkgs
		r.steps, r.pkgs = append(r.steps, s), append(r.pkgs, look)
	}
	c.steps = r.steps[:len(c.steps)]
	return c, r
}

// instCalls are calls of all kinds of steps, falls at all of them, and some of which the disk, the packages, or a step is not ok.
func instCalls(t *testing.T) []instCall {
	t.Helper()
	out, lists, disks := []instCall{}, stepLists(t), fewDisks(t)
	for i, p := range somePuts(t) {
		steps := wantSteps(p.disk, p.list)
		falls := fallenAt(len(steps))
		out = append(out, instCall{p.disk, p.list, steps, falls[i%len(falls)]}, instCall{p.disk, p.list, lists[i%len(lists)], falls[i*5%len(falls)]})
	}
	for i, d := range fallenDisks(t) {
		if i%2 == 0 {
			mends := wantMends(d)
			falls := fallenAt(len(mends))
			out = append(out, instCall{d, d.Jour, mends, falls[i/2%len(falls)]}, instCall{d, d.Db, lists[i%len(lists)], falls[i*3%len(falls)]})
		}
	}
	odd, steps := oddSteps(t), someSteps(t)
	for i, list := range oddLists(t) {
		d, s := disks[i*7%len(disks)], slices.Insert(slices.Clone(steps[i%20:i%20+4]), i%5, odd[i*11%len(odd)])
		out = append(out, instCall{d, list, s, fall{i % 6, i%2 == 0}}, instCall{holding(nil), list, s[:i%5], fall{i%3 - 1, i%2 == 0}})
	}
	for i, d := range oddDisks(t) {
		if i%9 == 0 {
			out = append(out, instCall{d, d.Db, lists[i%len(lists)], fall{i % 4, i%2 == 0}})
		}
	}
	return slices.DeleteFunc(out, func(c instCall) bool { return !c.isShort() })
}

// isShort leaves out calls of which a copy would be long.
func (c instCall) isShort() bool {
	short := len(c.list) <= 20 && diskCall{disk: c.disk}.isShort()
	for _, s := range c.steps {
		short = short && len(s.Pkgs) <= 20
	}
	return short
}

func TestInstCallsAreOfAllKinds(t *testing.T) {
	kinds := map[string]int{}
	for _, c := range instCalls(t) {
		a := c.want()
		kinds[fmt.Sprint(len(a.steps) > 0, len(a.mends) > 0, a.isTo, a.isMended)]++
		kinds[fmt.Sprint("cut ", c.at.cut <= 0, c.at.cut < len(c.steps), c.at.torn, a.isTo)]++
		kinds[fmt.Sprint("packages ", len(c.list), isTogether(c.list), len(a.steps) > 0)]++
	}
	for _, kind := range []string{
		"true false true true", "false true true true", "false true false true", "false false true true", "false false false true", "false false false false",
		"cut true true true true", "cut true true false true", "cut false true true true", "cut false true false true", "cut false false true true", "cut false false false true",
		"cut false true true false", "cut true true true false", "packages 0 true true", "packages 1 true true", "packages 4 true true", "packages 2 false false",
	} {
		if kinds[kind] == 0 {
			t.Errorf("no call is of the kind %v: %v", kind, kinds)
		}
	}
}

func TestPuttingInWritesIntoNoArgument(t *testing.T) {
	for _, c := range instCalls(t) {
		roomy, rooms := roomyInstCall(c.clone())
		were := rooms.clone()
		if got := roomy.ask(); !got.same(c.want()) {
			t.Errorf("room behind %v is seen: %v", c, got)
		}
		if !rooms.same(were) {
			t.Errorf("an argument was changed: %v", c)
		}
	}
}

// What is written into an answer, and into its room, is in no argument, and in no other answer.
func TestInstAnswersShareNoMemory(t *testing.T) {
	for _, c := range instCalls(t) {
		roomy, rooms := roomyInstCall(c.clone())
		were := rooms.clone()
		first, second := roomy.ask(), roomy.ask()
		first.scribble()
		if !rooms.same(were) || !second.same(c.want()) || !roomy.ask().same(c.want()) {
			t.Errorf("an answer of %v shares memory", c)
		}
	}
}

// What is written into an argument later is in no answer: nobody reads it any more.
func TestInstAnswersOutliveTheirArguments(t *testing.T) {
	for _, c := range instCalls(t) {
		want := c.clone().want().clone()
		given := c.clone()
		got := given.ask()
		scribbleDisk(given.disk)
		scribblePkgs(given.list)
		scribbleSteps(given.steps)
		if !got.same(want) {
			t.Errorf("an answer of %v hangs on an argument: %v", c, got)
		}
	}
}

// stepsMemory has each list by itself, so what is shown of a step is not what stands in its packages.
func stepsMemory(steps []impl.Step) []memory {
	out := []memory{memoryOf(steps, impl.Step{Kind: 77}, func(s impl.Step) string { return fmt.Sprint(s.Kind, s.Path, s.Data, len(s.Pkgs)) })}
	for _, s := range steps {
		out = append(out, pkgsMemory(s.Pkgs)...)
	}
	return out
}

func checkInstApart(t *testing.T, c instCall) {
	t.Helper()
	checkApart(t, func() []memory { return stepsMemory(impl.InstSteps(c.disk, c.list)) })
	checkApart(t, func() []memory { return stepsMemory(impl.InstMends(c.disk)) })
	checkDiskApart(t, func() impl.Disk { d, _ := impl.InstTo(c.disk, c.steps, c.at.cut, c.at.torn); return d })
	checkDiskApart(t, func() impl.Disk { d, _ := impl.InstMend(c.disk); return d })
}

// No two steps have the same packages' memory, either.
func TestInstAnswersHaveListsOfTheirOwn(t *testing.T) {
	for _, c := range instCalls(t) {
		checkInstApart(t, c)
	}
}

// One list that is in, to be in, and in several steps, and of which several packages have parts, is many lists in what is answered.
func TestPuttingInTakesOneListTwice(t *testing.T) {
	needs := []impl.Dep{{Name: 3, Least: 1}, {Name: 4, Least: 1}, {Name: 4, Least: 5}}
	files := []impl.File{{Path: 0, Data: 1}, {Path: 3, Data: 2}, {Path: 4, Data: 3}}
	list := []impl.Pkg{
		{Name: 1, Ver: 1, Files: files[:1], Deps: needs[:2]}, {Name: 2, Ver: 1, Files: files[1:2], Deps: needs[:2]},
		{Name: 3, Ver: 1, Files: files[2:], Deps: needs[1:2]}, {Name: 4, Ver: 1, Files: files[:0], Deps: needs[:1]},
	}
	wereNeeds, wereFiles, were := slices.Clone(needs), slices.Clone(files), slices.Clone(list)
	places := []int{1, -1, -1, 2, 3, -1, -2, 5}
	wasThere := slices.Clone(places)
	steps := []impl.Step{{Kind: kindJour, Pkgs: list}, {Kind: kindDb, Pkgs: list}, {Kind: kindJour, Pkgs: list[2:]}, {Kind: kindFile, Path: 2, Data: 5}, {Kind: kindDb, Pkgs: list[2:]}}
	wereSteps := cloneSteps(steps)
	for _, d := range []impl.Disk{{Files: wantFiles(nil)}, {Db: list, Files: places[:6]}, {Db: list, Files: places[:6], Has: true, Jour: list}, {Db: list[2:], Files: places[2:], Has: true, Jour: list}} {
		for _, toBe := range [][]impl.Pkg{list, list[2:], list[:0]} {
			checkSteps(t, d, toBe)
			checkMends(t, d)
			checkMend(t, d, true)
			for _, at := range fallenAt(len(steps)) {
				checkTo(t, d, steps, at, true)
				checkInstApart(t, instCall{d, toBe, steps, at})
			}
			if !slices.Equal(needs, wereNeeds) || !slices.Equal(files, wereFiles) || !samePkgs(list, were) || !slices.Equal(places, wasThere) || !sameSteps(steps, wereSteps) {
				t.Fatalf("an answer of %v and %v shares memory", d, toBe)
			}
		}
	}
}

// An answer that hung on what was asked ahead of it would be the elder one behind a change of an argument.
func TestPuttingInFollowsItsArguments(t *testing.T) {
	d := impl.Disk{Db: readAll(t, "a1 0:1", "b2 a1"), Files: []int{1, -1, -1, -1, -1, -1}}
	list := readAll(t, "c1 5:5 d1", "d1")
	for range 3 {
		steps := checkSteps(t, d, list)
		checkAll(t, d, steps)
		list[0].Files[0].Data = 6
		checkSteps(t, d, list)
		checkAll(t, d, steps)
		steps[1].Path = 3
		checkAll(t, d, steps)
		steps[1].Path = 6
		checkTo(t, d, steps, fall{}, false)
		list[0].Deps[0].Least = 2
		checkNoSteps(t, d, list)
		list[0].Deps[0].Least, list[0].Files[0].Data = 1, 5
		d.Has, d.Jour = true, list
		checkNoSteps(t, d, list)
		checkMends(t, d)
		d.Files[5] = 5
		checkMends(t, d)
		checkMend(t, d, true)
		d.Has, d.Jour, d.Files[5] = false, nil, -1
		checkMends(t, d)
		checkMend(t, d, true)
	}
}

func TestPuttingInKeepsNothingBetweenCalls(t *testing.T) {
	calls := instCalls(t)
	var group sync.WaitGroup
	for range 4 {
		group.Go(func() {
			for _, c := range calls {
				if got := c.ask(); !got.same(c.want()) {
					t.Errorf("%v answers %v", c, got)
				}
			}
		})
	}
	group.Wait()
}

// Who sends steps is gone when they are answered, wherever it falls; one that has just closed may take a moment to end.
func TestPuttingInLeavesNobodyBehind(t *testing.T) {
	calls, before := instCalls(t), runtime.NumGoroutine()
	for _, c := range calls {
		c.ask()
	}
	for range 200 {
		if runtime.NumGoroutine() <= before {
			return
		}
		time.Sleep(10 * time.Millisecond)
	}
	t.Errorf("behind %d calls there are %d goroutines; there were %d", len(calls), runtime.NumGoroutine(), before)
}
