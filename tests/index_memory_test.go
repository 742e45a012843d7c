package tests

import (
	"slices"
	"sync"
	"testing"

	"loop.example/purser/impl"
)

// roomyIndex is an index with marked room behind what it tells, and a look at all of that room.
func roomyIndex(x impl.Index) (impl.Index, []impl.Meta) {
	room := slices.Clone(x.Metas)
	for i := range 5 {
		room = append(room, impl.Meta{Name: 4, Ver: 5, Sum: 100 + i})
	}
	x.Metas = room[:len(x.Metas)]
	return x, room
}

func scribbleMetas(metas []impl.Meta) {
	for i := range metas[:cap(metas)] {
		metas[:cap(metas)][i] = impl.Meta{Name: 77, Ver: 77, Sum: 77}
	}
}

func scribblePkg(p impl.Pkg) {
	for i := range p.Files[:cap(p.Files)] {
		p.Files[:cap(p.Files)][i] = impl.File{Path: 77, Data: 77}
	}
	for i := range p.Deps[:cap(p.Deps)] {
		p.Deps[:cap(p.Deps)][i] = impl.Dep{Name: 77, Least: 77}
	}
}

func TestIndexesWriteIntoNoArgument(t *testing.T) {
	for _, x := range append(someIndexes(), oddIndexes()...) {
		y, room := roomyIndex(x)
		was := slices.Clone(room)
		if impl.IndexOk(y) != impl.IndexOk(x) || impl.IndexText(y) != impl.IndexText(x) {
			t.Errorf("room behind %v is seen", x)
		}
		for _, text := range []string{"a1", "b2 0:5", "", "d5"} {
			checkHas(t, y, text, impl.IndexOk(x) && wantHas(x, text))
		}
		if !slices.Equal(room, was) {
			t.Errorf("an argument was changed: %v", x)
		}
	}
}

func TestIndexOfWritesIntoNoArgument(t *testing.T) {
	lists := append(somePkgLists(), oddPkgs(), readAll(t, "b1", "a1 0:1 b2"), slices.Repeat(readAll(t, "a1 0:1 b2"), 20))
	for _, list := range lists {
		want, wantOk := impl.IndexOf(3, 9, clonePkgs(list))
		room, files, deps := []impl.Pkg{}, [][]impl.File{}, [][]impl.Dep{}
		for _, p := range append(clonePkgs(list), readAll(t, "d5 5:5 a5", "d5")...) {
			q, f, d := roomy(p)
			room, files, deps = append(room, q), append(files, f), append(deps, d)
		}
		was, filesWere, depsWere := clonePkgs(room), [][]impl.File{}, [][]impl.Dep{}
		for i := range room {
			filesWere, depsWere = append(filesWere, slices.Clone(files[i])), append(depsWere, slices.Clone(deps[i]))
		}
		checkIndexOf(t, 3, 9, room[:len(list)], want, wantOk)
		for i := range room {
			if !samePkg(room[i], was[i]) || !slices.Equal(files[i], filesWere[i]) || !slices.Equal(deps[i], depsWere[i]) {
				t.Errorf("an argument was changed: %v", was)
			}
		}
	}
}

func TestIndexAnswersShareNoMemory(t *testing.T) {
	for _, list := range somePkgLists() {
		given, want := clonePkgs(list), wantIndex(3, 9, list)
		x, y := mustIndexOf(t, given), mustIndexOf(t, given)
		scribbleMetas(x.Metas)
		if !sameIndex(y, want) || !sameIndex(mustIndexOf(t, given), want) || !slices.EqualFunc(given, list, samePkg) {
			t.Errorf("IndexOf of %v shares memory", list)
		}
		text := wantIndexText(want)
		a, _ := impl.IndexRead(text)
		b, _ := impl.IndexRead(text)
		scribbleMetas(a.Metas)
		if c, ok := impl.IndexRead(text); !ok || !sameIndex(b, want) || !sameIndex(c, want) {
			t.Errorf("IndexRead(%q) shares memory", text)
		}
		for _, p := range list {
			q, _ := impl.IndexHas(y, wantText(p))
			z, _ := impl.IndexHas(y, wantText(p))
			scribblePkg(q)
			if !samePkg(z, p) || !sameIndex(y, want) {
				t.Errorf("IndexHas(%v, %q) shares memory", y, wantText(p))
			}
			checkHas(t, y, wantText(p), true)
		}
	}
}

// The files and the needs of one answer are two lists: what is written into the room of one is not in the other.
func TestIndexHasTellsListsOfTheirOwn(t *testing.T) {
	for _, p := range somePkgs() {
		x := mustIndexOf(t, []impl.Pkg{p})
		q, _ := impl.IndexHas(x, wantText(p))
		scribblePkg(impl.Pkg{Files: q.Files})
		if !slices.Equal(q.Deps, p.Deps) {
			t.Errorf("files and needs of %v share memory", p)
		}
		q, _ = impl.IndexHas(x, wantText(p))
		scribblePkg(impl.Pkg{Deps: q.Deps})
		if !slices.Equal(q.Files, p.Files) {
			t.Errorf("files and needs of %v share memory", p)
		}
	}
}

// An answer that hung on memory of an argument would be the elder one behind a change of that memory.
func TestIndexesFollowTheirArguments(t *testing.T) {
	list := readAll(t, "a1 0:1", "a2")
	x := mustIndexOf(t, list)
	for range 3 {
		checkHas(t, x, "a1 0:1", true)
		list[0].Files[0].Data = 2
		checkHas(t, x, "a1 0:2", false)
		checkHas(t, mustIndexOf(t, list), "a1 0:2", true)
		x.Metas[0].Sum = impl.SumOf("a1 0:2")
		checkHas(t, x, "a1 0:1", false)
		checkHas(t, x, "a1 0:2", true)
		x.Metas[0].Ver = 2
		checkIndexOk(t, x, false)
		checkHas(t, x, "a2", false)
		list[0].Files[0].Data = 1
		x.Metas[0] = wantMeta(list[0])
		checkIndexOk(t, x, true)
	}
}

func TestIndexesKeepNothingBetweenCalls(t *testing.T) {
	var group sync.WaitGroup
	for range 4 {
		group.Go(func() {
			for _, list := range somePkgLists() {
				checkIndexOf(t, 5, 6, list, wantIndex(5, 6, list), true)
				x := wantIndex(5, 6, list)
				checkIndexRead(t, wantIndexText(x))
				checkNoIndex(t, wantIndexText(x)+"\n")
				for _, p := range list {
					checkHas(t, x, wantText(p), true)
				}
				checkHas(t, x, "a1 ", false)
			}
		})
	}
	group.Wait()
}
