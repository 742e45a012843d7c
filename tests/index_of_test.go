package tests

import (
	"slices"
	"testing"

	"loop.example/purser/impl"
)

// wantIndex is, without the program, the index of packages of which one can be made.
func wantIndex(num, until int, list []impl.Pkg) impl.Index {
	x := impl.Index{Num: num, Until: until}
	for _, p := range list {
		x.Metas = append(x.Metas, wantMeta(p))
	}
	return x
}

// oddPkgs are packages that are not ok, all but the first two of the name 2 and the version 3.
func oddPkgs() []impl.Pkg {
	file, need := impl.File{Path: 3, Data: 1}, impl.Dep{Name: 3, Least: 1}
	return []impl.Pkg{
		{}, {Name: 2, Ver: 6},
		{Name: 2, Ver: 3, Files: []impl.File{file, file}}, {Name: 2, Ver: 3, Files: []impl.File{file, {Path: 0, Data: 1}}},
		{Name: 2, Ver: 3, Files: []impl.File{{Path: 6, Data: 1}}}, {Name: 2, Ver: 3, Files: []impl.File{{Path: 1, Data: 10}}},
		{Name: 2, Ver: 3, Files: []impl.File{{Path: 0}, {Path: 1}, {Path: 2}}}, {Name: 2, Ver: 3, Files: make([]impl.File, 1000)},
		{Name: 2, Ver: 3, Deps: []impl.Dep{need, need}}, {Name: 2, Ver: 3, Deps: []impl.Dep{need, {Name: 1, Least: 1}}},
		{Name: 2, Ver: 3, Deps: []impl.Dep{{Name: 2, Least: 1}}}, {Name: 2, Ver: 3, Deps: []impl.Dep{{Name: 1, Least: 6}}},
	}
}

func TestIndexOfByHand(t *testing.T) {
	list := readAll(t, "a1 0:1", "a2", "c1")
	want := impl.Index{Num: 3, Until: 9, Metas: []impl.Meta{
		{Name: 1, Ver: 1, Sum: impl.SumOf("a1 0:1")}, {Name: 1, Ver: 2, Sum: impl.SumOf("a2")}, {Name: 3, Ver: 1, Sum: impl.SumOf("c1")},
	}}
	checkIndexOf(t, 3, 9, list, want, true)
	checkIndexOf(t, 1, 0, readAll(t, "a1"), impl.Index{Num: 1, Metas: []impl.Meta{{Name: 1, Ver: 1, Sum: 9815}}}, true)
	checkIndexOf(t, 1, 0, nil, impl.Index{Num: 1}, true)
	checkIndexOf(t, 30, 60, []impl.Pkg{}, impl.Index{Num: 30, Until: 60}, true)
}

// P23
func TestIndexOfTellsOfEachPackage(t *testing.T) {
	for i, list := range somePkgLists() {
		num, until := 1+i%30, i%61
		want := wantIndex(num, until, list)
		checkIndexOf(t, num, until, list, want, true)
		if len(want.Metas) != len(list) || !impl.IndexOk(want) {
			t.Errorf("%v is no index of %v", want, list)
		}
	}
}

func TestIndexOfAtItsBounds(t *testing.T) {
	numbers := append([]int{}, farNumbers...)
	for n := -3; n <= 70; n++ {
		numbers = append(numbers, n)
	}
	all := []impl.Pkg{}
	for _, m := range ladder(0) {
		all = append(all, impl.Pkg{Name: m.Name, Ver: m.Ver})
	}
	for _, size := range []int{0, 1, 8} {
		list := all[20-size:]
		for _, num := range numbers {
			for _, until := range numbers {
				if 1 <= num && num <= 30 && 0 <= until && until <= 60 {
					checkIndexOf(t, num, until, list, wantIndex(num, until, list), true)
				} else {
					checkIndexOf(t, num, until, list, impl.Index{}, false)
				}
			}
		}
	}
	for size := 0; size <= 20; size++ {
		if size <= 8 {
			checkIndexOf(t, 1, 1, all[:size], wantIndex(1, 1, all[:size]), true)
		} else {
			checkIndexOf(t, 1, 1, all[:size], impl.Index{}, false)
		}
	}
	checkIndexOf(t, 1, 1, slices.Repeat(all, 1000), impl.Index{}, false)
	checkIndexOf(t, 1, 1, make([]impl.Pkg, 1000), impl.Index{}, false)
}

// Two packages of each name and version, in order, out of order, and twice, whatever their texts are.
func TestIndexOfTwoInAnyOrder(t *testing.T) {
	file := []impl.File{{Path: 1, Data: 1}}
	for i, m := range ladder(0) {
		for j, n := range ladder(0) {
			for kind := range 4 {
				a, b := impl.Pkg{Name: m.Name, Ver: m.Ver}, impl.Pkg{Name: n.Name, Ver: n.Ver}
				if kind%2 == 1 {
					a.Files = file
				}
				if kind >= 2 {
					b.Files = file
				}
				list := []impl.Pkg{a, b}
				if i < j {
					checkIndexOf(t, 2, 2, list, wantIndex(2, 2, list), true)
				} else {
					checkIndexOf(t, 2, 2, list, impl.Index{}, false)
				}
			}
		}
	}
	for _, texts := range [][]string{
		{"a1", "a2", "a3"}, {"a3", "b1"}, {"a5", "b1", "b2", "d1"},
	} {
		list := readAll(t, texts...)
		checkIndexOf(t, 2, 2, list, wantIndex(2, 2, list), true)
		slices.Reverse(list)
		checkIndexOf(t, 2, 2, list, impl.Index{}, false)
	}
	for _, texts := range [][]string{
		{"a1", "a3", "a2"}, {"a2", "a1", "a3"}, {"a1", "b1", "a2"}, {"a1", "a2", "a2"}, {"a1", "a2", "a2 0:1"}, {"a1", "a2", "a1"}, {"b1", "a2"}, {"b1", "a1"},
	} {
		checkIndexOf(t, 2, 2, readAll(t, texts...), impl.Index{}, false)
	}
}

func TestIndexOfPackagesThatAreNotOk(t *testing.T) {
	for _, odd := range oddPkgs() {
		checkIndexOf(t, 1, 1, []impl.Pkg{odd}, impl.Index{}, false)
		around := readAll(t, "a5 0:1", "b2", "b3", "b4", "d1 b2")
		for i := range around {
			list := clonePkgs(around)
			list[i] = odd
			checkIndexOf(t, 1, 1, list, impl.Index{}, false)
		}
		for i := 0; i <= len(around); i++ {
			checkIndexOf(t, 1, 1, slices.Insert(slices.Delete(clonePkgs(around), 2, 3), min(i, 4), odd), impl.Index{}, false)
		}
	}
}
