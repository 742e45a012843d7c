package tests

import (
	"slices"
	"testing"

	"loop.example/purser/impl"
)

// fullWorld is ok, has some of all, and is one that no play comes to: keys that are not the last root's sign, and indexes tell of less, or of other packages.
func fullWorld(t *testing.T) impl.World {
	t.Helper()
	list := readAll(t, "a1 0:1", "a2 0:2 b1", "b1 1:3", "c1 2:5 d1", "d1 5:9")
	other := append(readAll(t, "a3 0:9"), list[2], mustRead(t, "d5"))
	return impl.World{
		Now: 9,
		Roots: []impl.SigRoot{
			{Root: twoOfThree(1), By: []int{1, 3}},
			{Root: impl.Root{Num: 2, Keys: []int{2, 3, 4}, Need: 2}, By: []int{2, 3, 6}},
			{Root: impl.Root{Num: 3, Keys: []int{4, 5, 6}, Need: 1}, By: []int{2, 4}},
		},
		Indexes: []impl.SigIndex{
			{Index: wantIndex(1, 15, other), By: nil}, {Index: wantIndex(2, 0, nil), By: []int{3}}, {Index: wantIndex(3, 12, list), By: []int{2, 4}},
			{Index: wantIndex(4, 9, list[2:4]), By: []int{2, 4, 5}}, {Index: wantIndex(5, 15, list[1:]), By: []int{4}},
		},
		Pkgs: list, Bad: []int{3},
		Trust: trusting(impl.Root{Num: 2, Keys: []int{2, 3, 4}, Need: 2}, wantIndex(3, 12, list)),
		Store: slices.Clone(list[:4]),
		Disk:  impl.Disk{Db: list[2:3], Files: []int{2, -2, -1, 9, -1, -1}, Has: true, Jour: list[1:3]},
	}
}

// fullWorlds are as that is, but for what is trusted, kept, and on the disk: all roots, all indexes or none, all, some, or nothing.
func fullWorlds(t *testing.T) []impl.World {
	t.Helper()
	full, out := fullWorld(t), []impl.World{}
	disks := []impl.Disk{holding(nil), holding(full.Pkgs[:1]), holding(full.Pkgs[1:]), withFile(holding(full.Pkgs[3:]), 0, 7), withJournal(holding(full.Pkgs[1:3]), nil), full.Disk}
	for _, s := range full.Roots {
		for i := range len(full.Indexes) + 1 {
			for _, store := range [][]impl.Pkg{full.Store, full.Pkgs, full.Pkgs[4:], nil} {
				for _, d := range disks {
					w := full
					w.Trust, w.Store, w.Disk = impl.Trust{Root: s.Root}, store, d
					if i > 0 {
						w.Trust = trusting(s.Root, full.Indexes[i-1].Index)
					}
					out = append(out, cloneWorld(w))
				}
			}
		}
	}
	return out
}

// emptyWorld is what a play begins with.
func emptyWorld() impl.World {
	w, _ := wantNew(twoOfThree(1), []int{3})
	return cloneWorld(w)
}

// oddWorlds are not ok, each for one cause alone but the first.
func oddWorlds(t *testing.T) []impl.World {
	t.Helper()
	out := []impl.World{{}}
	out = append(out, oddPublished(t)...)
	return append(out, oddFetched(t)...)
}

// changing makes worlds, each another one by one change.
func changing(out *[]impl.World, base impl.World) func(change func(w *impl.World)) {
	return func(change func(w *impl.World)) {
		w := cloneWorld(base)
		change(&w)
		*out = append(*out, w)
	}
}

// oddPublished are worlds of which the time, the bad keys, or what was published is not ok.
func oddPublished(t *testing.T) []impl.World {
	t.Helper()
	out := []impl.World{}
	for _, base := range []impl.World{emptyWorld(), fullWorld(t)} {
		add := changing(&out, base)
		for _, n := range append([]int{-2, -1, 61, 62}, farNumbers...) {
			add(func(w *impl.World) { w.Now = n })
		}
		for _, keys := range append(oddKeys(), []int{1, 2}, []int{2, 3}, []int{1, 2, 3, 4, 5, 6}) {
			add(func(w *impl.World) { w.Bad = keys })
		}
		for _, keys := range oddKeys() {
			add(func(w *impl.World) { w.Roots[0].By = keys })
		}
		for _, by := range [][]int{nil, {1}, {3}, {4, 5, 6}, {1, 4, 5, 6}} {
			add(func(w *impl.World) { w.Roots[0].By = by })
		}
		for _, r := range append(oddRoots(), twoOfThree(2), twoOfThree(9)) {
			add(func(w *impl.World) { w.Roots[0].Root = r })
		}
		add(func(w *impl.World) { w.Roots = nil })
		add(func(w *impl.World) { w.Roots = append(w.Roots, w.Roots[0]) })
		add(func(w *impl.World) { w.Roots = append(w.Roots, impl.SigRoot{}) })
		for _, list := range oddStores(t) {
			add(func(w *impl.World) { w.Pkgs = list })
		}
	}
	return append(out, oddLater(t)...)
}

// oddLater are worlds of which a later root, an index, or a package more is not ok.
func oddLater(t *testing.T) []impl.World {
	t.Helper()
	out := []impl.World{}
	add := changing(&out, fullWorld(t))
	for i, enough := range [][]int{{1, 2, 4}, {2, 4, 5}} {
		place := i + 1
		for _, by := range append(oddKeys(), nil, []int{1}, []int{3}, []int{6}, []int{1, 6}, []int{1, 3}, []int{3, 5, 6}, []int{5, 6}) {
			add(func(w *impl.World) { w.Roots[place].By = by })
		}
		for _, num := range append([]int{-1, 0, 1, 2, 3, 4, 9, 10}, farNumbers...) {
			if num != place+1 {
				add(func(w *impl.World) { w.Roots[place] = impl.SigRoot{Root: twoOfThree(num), By: enough} })
			}
		}
		add(func(w *impl.World) {
			w.Roots[place] = impl.SigRoot{Root: impl.Root{Num: place + 1, Keys: []int{2, 3, 4}, Need: 1}, By: enough}
		})
		add(func(w *impl.World) { w.Roots = slices.Delete(w.Roots, i, i+1) })
		add(func(w *impl.World) { w.Roots[i], w.Roots[place] = w.Roots[place], w.Roots[i] })
	}
	many := []impl.SigRoot{}
	for num := 1; num <= 10; num++ {
		many = append(many, impl.SigRoot{Root: twoOfThree(num), By: []int{1, 2}})
	}
	add(func(w *impl.World) { w.Roots, w.Trust = many, noIndex() })
	for place := range 5 {
		for _, x := range append(oddIndexes(), plainIndex(1, 16), plainIndex(5, 16), plainIndex(place+2, 5), plainIndex(place+1, 60)) {
			add(func(w *impl.World) { w.Trust, w.Indexes[place].Index = noIndex(), x })
		}
		for _, keys := range oddKeys() {
			add(func(w *impl.World) { w.Indexes[place].By = keys })
		}
		for num := 1; num <= 30; num++ {
			if num != place+1 {
				add(func(w *impl.World) { w.Trust.Has, w.Trust.Index, w.Indexes[place].Index.Num = false, impl.Index{}, num })
			}
		}
	}
	for num := range 32 {
		add(func(w *impl.World) {
			w.Trust, w.Indexes = noIndex(), []impl.SigIndex{{Index: plainIndex(num+2, 5), By: []int{1, 2}}}
		})
	}
	for _, count := range []int{31, 32, 1000} {
		add(func(w *impl.World) { w.Trust, w.Indexes = noIndex(), manyIndexes(count) })
	}
	for _, mask := range []uint{0x1ff, 0xff800, 0xfffff} {
		add(func(w *impl.World) { w.Pkgs, w.Store, w.Disk = mixed(mask, 0x15555), nil, holding(nil) })
	}
	return out
}

// manyIndexes are so many, in order.
func manyIndexes(count int) []impl.SigIndex {
	out := []impl.SigIndex{}
	for num := 1; num <= count; num++ {
		out = append(out, impl.SigIndex{Index: plainIndex(num, 5), By: []int{1, 2}})
	}
	return out
}

// oddFetched are worlds of which what is trusted, kept, or on the disk is not ok, or was not published.
func oddFetched(t *testing.T) []impl.World {
	t.Helper()
	out := []impl.World{}
	for _, base := range []impl.World{emptyWorld(), fullWorld(t)} {
		add := changing(&out, base)
		for _, v := range oddTrusts() {
			add(func(w *impl.World) { w.Trust = v })
		}
		for _, r := range []impl.Root{
			{Num: 1, Keys: []int{1, 2, 3}, Need: 1}, {Num: 1, Keys: []int{1, 2, 3}, Need: 3}, {Num: 1, Keys: []int{1, 2}, Need: 2}, {Num: 1, Keys: []int{1, 2, 4}, Need: 2},
			{Num: 2, Keys: []int{1, 2, 3}, Need: 2}, {Num: 4, Keys: []int{4, 5, 6}, Need: 1}, {Num: 2, Keys: []int{4, 5, 6}, Need: 1}, {Num: 9, Keys: []int{1}, Need: 1},
		} {
			add(func(w *impl.World) { w.Trust.Root = r })
		}
		for _, x := range []impl.Index{
			plainIndex(1, 9), {Num: 1}, {Num: 6, Until: 15}, {Num: 30, Until: 60}, wantIndex(3, 11, fullWorld(t).Pkgs), wantIndex(4, 12, fullWorld(t).Pkgs),
			wantIndex(3, 12, fullWorld(t).Pkgs[1:]), wantIndex(3, 12, readAll(t, "a1 0:2", "a2 0:2 b1", "b1 1:3", "c1 2:5 d1", "d1 5:9")), wantIndex(5, 15, nil),
		} {
			add(func(w *impl.World) { w.Trust = trusting(w.Trust.Root, x) })
		}
		for _, d := range oddDisks(t) {
			add(func(w *impl.World) { w.Disk = d })
		}
		for _, list := range oddStores(t) {
			add(func(w *impl.World) { w.Store = list })
		}
		for _, text := range []string{"a1", "a1 0:2", "a1 1:1", "a1 0:1 b1", "a3 0:1", "b1 0:1", "b1 1:3 2:3", "b2 1:3", "c1 0:1", "c1 1:3", "d1 1:3", "d1 5:8", "d2", "b5", "c2"} {
			p := mustRead(t, text)
			add(func(w *impl.World) { w.Store = []impl.Pkg{p} })
			add(func(w *impl.World) { w.Store = inOrder(append(slices.DeleteFunc(w.Store, atPlace(p.Name, p.Ver)), p)) })
			if len(p.Deps) == 0 {
				add(func(w *impl.World) { w.Disk.Db = []impl.Pkg{p} })
				add(func(w *impl.World) { w.Disk.Has, w.Disk.Jour = true, []impl.Pkg{p} })
			}
		}
	}
	return append(out, oddPlaces(t)...)
}

// oddPlaces are worlds of which all that is kept, in, or to be in was published, but is not in order, is there twice, or cannot be in together.
func oddPlaces(t *testing.T) []impl.World {
	t.Helper()
	out, base := []impl.World{}, fullWorld(t)
	add, list := changing(&out, base), base.Pkgs
	for _, odd := range [][]impl.Pkg{{list[0], list[0]}, {list[1], list[0]}, {list[2], list[0]}, {list[0], list[2], list[1]}, {list[4], list[4]}, slices.Repeat(list, 2)} {
		add(func(w *impl.World) { w.Store = odd })
	}
	for _, odd := range [][]impl.Pkg{{list[2], list[2]}, {list[4], list[2]}, list[:2], list[:3], list[1:2], list[3:4], list} {
		add(func(w *impl.World) { w.Disk.Db = odd })
		add(func(w *impl.World) { w.Disk.Jour = odd })
	}
	return out
}

func TestWorldOkByHand(t *testing.T) {
	checkWorldOk(t, emptyWorld(), true)
	checkWorldOk(t, impl.World{}, false)
	for _, w := range fullWorlds(t) {
		checkWorldOk(t, w, true)
	}
}

func TestWorldOkOfPlays(t *testing.T) {
	for _, w := range playedWorlds(t) {
		checkWorldOk(t, w, true)
		w.Now = -1
		checkWorldOk(t, w, false)
	}
}

func TestWorldOkNot(t *testing.T) {
	for _, w := range oddWorlds(t) {
		checkWorldOk(t, w, false)
	}
}

// What is not ok lets nothing happen, and nothing can be signed so in it.
func TestNothingHappensInOddWorlds(t *testing.T) {
	for i, w := range oddWorlds(t) {
		for _, e := range []impl.Event{{}, index(), bringRoot(emptyWorld().Roots[0]), bringIndex(impl.SigIndex{Index: impl.Index{Num: 1 + i%30}}), putIn(1), mendAll()} {
			checkMay(t, w, e, false)
			if got := checkHappen(t, w, e); !sameWorld(got, impl.World{}) {
				t.Errorf("WorldDo(%v, %v) = %v, not nothing", w, e, got)
			}
		}
		if got := checkSync(t, w); !sameWorld(got, impl.World{}) {
			t.Errorf("WorldSync(%v) = %v, not nothing", w, got)
		}
	}
}

// The ends of what is ok: time, bad keys, how many of each, and up to when an index counts.
func TestWorldOkAtItsEnds(t *testing.T) {
	good := []impl.World{}
	add := changing(&good, emptyWorld())
	for _, keys := range [][]int{nil, {1}, {2}, {4, 5, 6}, {3, 4, 5, 6}} {
		add(func(w *impl.World) { w.Bad = keys })
	}
	for _, by := range [][]int{{1, 2}, {1, 3}, {2, 3}, {1, 2, 3, 4, 5, 6}} {
		add(func(w *impl.World) { w.Roots[0].By = by })
	}
	for _, now := range []int{0, 1, 59, 60} {
		add(func(w *impl.World) { w.Now = now })
		for _, until := range []int{0, now, min(now+6, 60)} {
			add(func(w *impl.World) {
				w.Now, w.Indexes = now, []impl.SigIndex{{Index: impl.Index{Num: 1, Until: until}, By: []int{4}}}
				w.Trust = trusting(w.Trust.Root, w.Indexes[0].Index)
			})
		}
	}
	add(func(w *impl.World) { w.Indexes = manyIndexes(30) })
	add(func(w *impl.World) { w.Pkgs = mixed(0xff, 0x55); w.Store = clonePkgs(w.Pkgs) })
	for num := 2; num <= 9; num++ {
		add(func(w *impl.World) {
			for n := 2; n <= num; n++ {
				w.Roots = append(w.Roots, impl.SigRoot{Root: twoOfThree(n), By: []int{1, 2}})
			}
			w.Trust.Root = twoOfThree(1 + num/2)
		})
	}
	for _, w := range good {
		checkWorldOk(t, w, true)
	}
}
