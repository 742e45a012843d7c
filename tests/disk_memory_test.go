package tests

import (
	"fmt"
	"slices"
	"sync"
	"testing"

	"loop.example/purser/impl"
)

// diskCall is one choice of arguments for the functions of the chapter.
type diskCall struct {
	disk impl.Disk
	step impl.Step
}

// diskAnswer is what all functions of the chapter answer.
type diskAnswer struct {
	newOne, done, torn         impl.Disk
	ok, isTrue, isDone, isTorn bool
}

func (c diskCall) ask() diskAnswer {
	a := diskAnswer{newOne: impl.DiskNew(), ok: impl.DiskOk(c.disk), isTrue: impl.DiskTrue(c.disk)}
	a.done, a.isDone = impl.DiskDo(c.disk, c.step)
	a.torn, a.isTorn = impl.DiskTear(c.disk, c.step)
	return a
}

// want is, without the program, what ask answers.
func (c diskCall) want() diskAnswer {
	a := diskAnswer{newOne: impl.Disk{Files: []int{-1, -1, -1, -1, -1, -1}}, ok: isDisk(c.disk), isTrue: isTrueDisk(c.disk)}
	a.done, a.isDone = wantDo(c.disk, c.step)
	a.torn, a.isTorn = wantTear(c.disk, c.step)
	return a
}

func (a diskAnswer) same(b diskAnswer) bool {
	return sameDisk(a.newOne, b.newOne) && sameDisk(a.done, b.done) && sameDisk(a.torn, b.torn) &&
		a.ok == b.ok && a.isTrue == b.isTrue && a.isDone == b.isDone && a.isTorn == b.isTorn
}

func (a diskAnswer) clone() diskAnswer {
	a.newOne, a.done, a.torn = cloneDisk(a.newOne), cloneDisk(a.done), cloneDisk(a.torn)
	return a
}

func (a diskAnswer) scribble() {
	for _, d := range []impl.Disk{a.newOne, a.done, a.torn} {
		scribbleDisk(d)
	}
}

// scribbleDisk writes over all lists of a disk, and over all room behind them.
func scribbleDisk(d impl.Disk) {
	scribblePkgs(d.Db)
	scribbleKeys(d.Files)
	scribblePkgs(d.Jour)
}

func (c diskCall) clone() diskCall {
	return diskCall{cloneDisk(c.disk), cloneStep(c.step)}
}

// diskRooms are looks at all room that the lists of a call have.
type diskRooms struct {
	files          []int
	db, jour, pkgs storeRooms
}

func (r diskRooms) clone() diskRooms {
	return diskRooms{slices.Clone(r.files), r.db.clone(), r.jour.clone(), r.pkgs.clone()}
}

func (r diskRooms) same(b diskRooms) bool {
	return slices.Equal(r.files, b.files) && r.db.same(b.db) && r.jour.same(b.jour) && r.pkgs.same(b.pkgs)
}

// roomyDiskCall is the same call with marked room behind all of its lists.
func roomyDiskCall(c diskCall) (diskCall, diskRooms) {
	r := diskRooms{}
	c.disk.Files, r.files = roomyKeys(c.disk.Files)
	c.disk.Db, r.db = roomyPkgs(c.disk.Db)
	c.disk.Jour, r.jour = roomyPkgs(c.disk.Jour)
	c.step.Pkgs, r.pkgs = roomyPkgs(c.step.Pkgs)
	return c, r
}

// isShort leaves out calls of which a copy would be long.
func (c diskCall) isShort() bool {
	return len(c.disk.Db) <= 20 && len(c.disk.Files) <= 20 && len(c.disk.Jour) <= 20 && len(c.step.Pkgs) <= 20
}

// diskCalls are calls of all kinds of steps, and some of which the disk is not ok, or the step is none.
func diskCalls(t *testing.T) []diskCall {
	t.Helper()
	out, steps, files := []diskCall{}, otherSteps(t), fileSteps()
	for i, d := range append(fewDisks(t), impl.DiskNew()) {
		for j, s := range steps {
			if (i+j)%3 == 0 {
				out = append(out, diskCall{d, s})
			}
		}
		out = append(out, diskCall{d, files[i*7%len(files)]}, diskCall{d, files[i*25%len(files)]})
	}
	for i, d := range oddDisks(t) {
		if i%9 == 0 {
			out = append(out, diskCall{d, steps[i%len(steps)]})
		}
	}
	disks := someDisks(t)
	for i, s := range oddSteps(t) {
		if i%7 == 0 {
			out = append(out, diskCall{disks[i*11%len(disks)], s})
		}
	}
	return slices.DeleteFunc(out, func(c diskCall) bool { return !c.isShort() })
}

func TestDiskCallsAreOfAllKinds(t *testing.T) {
	kinds := map[string]int{}
	for _, c := range diskCalls(t) {
		a := c.want()
		kinds[fmt.Sprint(c.step.Kind, a.ok, a.isDone)]++
		kinds[fmt.Sprint(a.ok, a.isTrue, a.isDone, c.disk.Has, len(c.disk.Jour) > 0)]++
	}
	for _, kind := range []string{
		"1 true true", "2 true true", "3 true true", "4 true true", "1 true false", "2 true false", "3 true false", "4 true false", "1 false false", "3 false false",
		"true true true false false", "true false true false false", "true false true true false", "true false true true true", "false false false false true", "false false false true false",
	} {
		if kinds[kind] == 0 {
			t.Errorf("no call is of the kind %v: %v", kind, kinds)
		}
	}
}

func TestDisksWriteIntoNoArgument(t *testing.T) {
	for _, c := range diskCalls(t) {
		roomy, rooms := roomyDiskCall(c.clone())
		were := rooms.clone()
		if got := roomy.ask(); !got.same(c.want()) {
			t.Errorf("room behind %v is seen: %v", c, got)
		}
		if !rooms.same(were) {
			t.Errorf("an argument was changed: %v", c)
		}
	}
}

// What is written into an answer, and into its room, is in no argument, and in no other answer.
func TestDiskAnswersShareNoMemory(t *testing.T) {
	for _, c := range diskCalls(t) {
		roomy, rooms := roomyDiskCall(c.clone())
		were := rooms.clone()
		first, second := roomy.ask(), roomy.ask()
		first.scribble()
		if !rooms.same(were) || !second.same(c.want()) || !roomy.ask().same(c.want()) {
			t.Errorf("an answer of %v shares memory", c)
		}
	}
}

// What is written into an argument later is in no answer.
func TestDiskAnswersOutliveTheirArguments(t *testing.T) {
	for _, c := range diskCalls(t) {
		want := c.clone().want().clone()
		given := c.clone()
		got := given.ask()
		scribbleDisk(given.disk)
		scribblePkgs(given.step.Pkgs)
		if !got.same(want) {
			t.Errorf("an answer of %v hangs on an argument: %v", c, got)
		}
	}
}

// memory is one list: how to write over it, and over its room, and what stands in both.
type memory struct {
	write func()
	read  func() string
}

func memoryOf[T any](list []T, mark T, show func(T) string) memory {
	return memory{
		write: func() {
			for i := range list[:cap(list)] {
				list[:cap(list)][i] = mark
			}
		},
		read: func() string {
			out := ""
			for _, x := range list[:cap(list)] {
				out += show(x) + " "
			}
			return out
		},
	}
}

func show[T any](x T) string {
	return fmt.Sprint(x)
}

// pkgsMemory has each list by itself, so what is shown of a package is not what stands in its lists.
func pkgsMemory(list []impl.Pkg) []memory {
	out := []memory{memoryOf(list, impl.Pkg{Name: 77, Ver: 77}, func(p impl.Pkg) string { return fmt.Sprint(p.Name, p.Ver, len(p.Files), len(p.Deps)) })}
	for _, p := range list {
		out = append(out, memoryOf(p.Files, impl.File{Path: 77, Data: 77}, show), memoryOf(p.Deps, impl.Dep{Name: 77, Least: 77}, show))
	}
	return out
}

func diskMemory(d impl.Disk) []memory {
	return slices.Concat([]memory{memoryOf(d.Files, 77, show)}, pkgsMemory(d.Db), pkgsMemory(d.Jour))
}

// checkApart writes over one list of an answer at a time, and asks that all others are as they were.
func checkApart(t *testing.T, ask func() []memory) {
	t.Helper()
	for i := range ask() {
		all, were := ask(), []string{}
		for _, m := range all {
			were = append(were, m.read())
		}
		all[i].write()
		for j, m := range all {
			if j != i && m.read() != were[j] {
				t.Errorf("lists %d and %d of an answer share memory: %v", i, j, were)
			}
		}
	}
}

func checkDiskApart(t *testing.T, ask func() impl.Disk) {
	t.Helper()
	checkApart(t, func() []memory { return diskMemory(ask()) })
}

func checkStepApart(t *testing.T, c diskCall) {
	t.Helper()
	checkDiskApart(t, func() impl.Disk { d, _ := impl.DiskDo(c.disk, c.step); return d })
	checkDiskApart(t, func() impl.Disk { d, _ := impl.DiskTear(c.disk, c.step); return d })
}

func TestDiskAnswersHaveListsOfTheirOwn(t *testing.T) {
	checkDiskApart(t, impl.DiskNew)
	for _, c := range diskCalls(t) {
		checkStepApart(t, c)
	}
}

// One list that is in, to be in, and to be put in, and of which several packages have parts, is many lists in what is answered.
func TestDisksTakeOneListTwice(t *testing.T) {
	needs := []impl.Dep{{Name: 3, Least: 1}, {Name: 4, Least: 1}, {Name: 4, Least: 5}}
	files := []impl.File{{Path: 0, Data: 1}, {Path: 3, Data: 2}, {Path: 4, Data: 3}}
	list := []impl.Pkg{
		{Name: 1, Ver: 1, Files: files[:1], Deps: needs[:2]}, {Name: 2, Ver: 1, Files: files[1:2], Deps: needs[:2]},
		{Name: 3, Ver: 1, Files: files[2:], Deps: needs[1:2]}, {Name: 4, Ver: 1, Files: files[:0], Deps: needs[:1]},
	}
	wereNeeds, wereFiles, were := slices.Clone(needs), slices.Clone(files), slices.Clone(list)
	places := []int{1, -1, -2, 2, 3, -1, 4, 5}
	for _, s := range append([]impl.Step{{Kind: kindJour, Pkgs: list}, {Kind: kindDb, Pkgs: list}, {Kind: kindDb, Pkgs: list[2:]}, {Kind: kindJour, Pkgs: list[:0]}, {Kind: kindDone}}, fileSteps()...) {
		for _, d := range []impl.Disk{{Files: places[:6]}, {Db: list, Files: places[:6]}, {Db: list, Files: places[:6], Has: true, Jour: list}, {Db: list[2:], Files: places[2:], Has: true, Jour: list}} {
			checkDo(t, d, s, true)
			checkTear(t, d, s, true)
			checkStepApart(t, diskCall{d, s})
			if !slices.Equal(needs, wereNeeds) || !slices.Equal(files, wereFiles) || !samePkgs(list, were) || !slices.Equal(places, []int{1, -1, -2, 2, 3, -1, 4, 5}) {
				t.Fatalf("an answer of %v and %v shares memory", d, s)
			}
		}
	}
}

// An answer that hung on what was asked ahead of it would be the elder one behind a change of an argument.
func TestDisksFollowTheirArguments(t *testing.T) {
	d := impl.Disk{Db: readAll(t, "a1 0:1", "b2 a1"), Files: []int{1, -1, -1, -1, -1, -1}}
	s := impl.Step{Kind: kindJour, Pkgs: readAll(t, "c1 5:5 d1", "d1")}
	for range 3 {
		checkDiskTrue(t, d, true)
		checkDo(t, d, s, true)
		d.Files[0] = 2
		checkDiskTrue(t, d, false)
		checkTear(t, d, s, true)
		d.Files[0], d.Db[1].Deps[0].Least = 1, 2
		checkDiskOk(t, d, false)
		checkNoStep(t, d, s)
		d.Db[1].Deps[0].Least, s.Pkgs[0].Deps[0].Least = 1, 2
		checkDiskTrue(t, d, true)
		checkNoStep(t, d, s)
		s.Pkgs[0].Deps[0].Least, s.Kind = 1, kindDb
		checkDo(t, d, s, true)
		s.Kind, d.Jour = kindJour, s.Pkgs
		checkDiskOk(t, d, false)
		d.Has = true
		checkDo(t, d, s, true)
		d.Has, d.Jour = false, nil
	}
}

func TestDisksKeepNothingBetweenCalls(t *testing.T) {
	calls := diskCalls(t)
	var group sync.WaitGroup
	for range 4 {
		group.Go(func() {
			for _, c := range calls {
				if got := c.ask(); !got.same(c.want()) {
					t.Errorf("%v answers %v", c, got)
				}
			}
		})
	}
	group.Wait()
}
