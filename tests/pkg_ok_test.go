package tests

import (
	"math"
	"slices"
	"testing"

	"loop.example/purser/impl"
)

// checkPkgOk asks for PkgOk, and that just a package that is ok has a text.
func checkPkgOk(t *testing.T, p impl.Pkg, want bool) {
	t.Helper()
	if got := impl.PkgOk(p); got != want {
		t.Errorf("PkgOk(%v) = %v, want %v", p, got, want)
	}
	text := ""
	if want {
		text = wantText(p)
	}
	if got := impl.PkgText(p); got != text {
		t.Errorf("PkgText(%v) = %q, want %q", p, got, text)
	}
}

func TestLimitValues(t *testing.T) {
	got := []int{impl.NameMax, impl.VerMax, impl.PathMax, impl.DataMax, impl.FileMax, impl.DepMax, impl.SumMod}
	if want := []int{4, 5, 6, 9, 2, 2, 9973}; !slices.Equal(got, want) {
		t.Errorf("limits are %v, want %v", got, want)
	}
}

func TestNumbersAtTheirBounds(t *testing.T) {
	numbers := []int{math.MinInt, math.MinInt + 1, -1 << 32, -256, -97, math.MaxInt32, 1 << 32, 1<<32 + 1, 1<<32 + 2, math.MaxInt - 1, math.MaxInt}
	for n := -12; n <= 300; n++ {
		numbers = append(numbers, n)
	}
	for _, n := range numbers {
		checkPkgOk(t, impl.Pkg{Name: n, Ver: 1}, 1 <= n && n <= 4)
		checkPkgOk(t, impl.Pkg{Name: 1, Ver: n}, 1 <= n && n <= 5)
		checkPkgOk(t, impl.Pkg{Name: 1, Ver: 1, Files: []impl.File{{Path: n, Data: 1}}}, 0 <= n && n <= 5)
		checkPkgOk(t, impl.Pkg{Name: 1, Ver: 1, Files: []impl.File{{Path: 1, Data: n}}}, 0 <= n && n <= 9)
		checkPkgOk(t, impl.Pkg{Name: 1, Ver: 1, Files: []impl.File{{Path: 2, Data: 0}, {Path: n, Data: 0}}}, 3 <= n && n <= 5)
		checkPkgOk(t, impl.Pkg{Name: 1, Ver: 1, Files: []impl.File{{Path: n, Data: 0}, {Path: 2, Data: 0}}}, 0 <= n && n <= 1)
		checkPkgOk(t, impl.Pkg{Name: 1, Ver: 1, Files: []impl.File{{Path: 1, Data: 0}, {Path: 2, Data: n}}}, 0 <= n && n <= 9)
		checkPkgOk(t, impl.Pkg{Name: 4, Ver: 1, Deps: []impl.Dep{{Name: n, Least: 1}}}, 1 <= n && n <= 3)
		checkPkgOk(t, impl.Pkg{Name: 1, Ver: 1, Deps: []impl.Dep{{Name: n, Least: 1}}}, 2 <= n && n <= 4)
		checkPkgOk(t, impl.Pkg{Name: 4, Ver: 1, Deps: []impl.Dep{{Name: 1, Least: n}}}, 1 <= n && n <= 5)
		checkPkgOk(t, impl.Pkg{Name: 4, Ver: 1, Deps: []impl.Dep{{Name: 1, Least: 1}, {Name: 2, Least: n}}}, 1 <= n && n <= 5)
		checkPkgOk(t, impl.Pkg{Name: 4, Ver: 1, Deps: []impl.Dep{{Name: 2, Least: 1}, {Name: n, Least: 1}}}, n == 3)
		checkPkgOk(t, impl.Pkg{Name: 4, Ver: 1, Deps: []impl.Dep{{Name: n, Least: 1}, {Name: 2, Least: 1}}}, n == 1)
	}
	checkPkgOk(t, impl.Pkg{}, false)
}

func TestHowManyFilesAndNeeds(t *testing.T) {
	files, deps := []impl.File{}, []impl.Dep{}
	for n := 0; n <= 6; n++ {
		checkPkgOk(t, impl.Pkg{Name: 1, Ver: 1, Files: files}, n <= 2)
		files = append(files, impl.File{Path: n, Data: n})
	}
	for n := 0; n <= 3; n++ {
		checkPkgOk(t, impl.Pkg{Name: 1, Ver: 1, Deps: deps}, n <= 2)
		deps = append(deps, impl.Dep{Name: n + 2, Least: 1})
	}
	checkPkgOk(t, impl.Pkg{Name: 1, Ver: 1, Files: make([]impl.File, 100000)}, false)
	checkPkgOk(t, impl.Pkg{Name: 1, Ver: 1, Deps: make([]impl.Dep, 100000)}, false)
}

func TestOrderOfFilesAndNeeds(t *testing.T) {
	for a := -1; a <= 6; a++ {
		for b := -1; b <= 6; b++ {
			files := []impl.File{{Path: a, Data: 9}, {Path: b, Data: 0}}
			checkPkgOk(t, impl.Pkg{Name: 2, Ver: 5, Files: files}, 0 <= a && a < b && b <= 5)
			for own := 1; own <= 4; own++ {
				deps := []impl.Dep{{Name: a, Least: 5}, {Name: b, Least: 1}}
				want := 1 <= a && a < b && b <= 4 && a != own && b != own
				checkPkgOk(t, impl.Pkg{Name: own, Ver: 5, Deps: deps}, want)
			}
		}
	}
}

// P4
func TestOkWithoutAnyFileOrNeed(t *testing.T) {
	for _, p := range somePkgs() {
		checkPkgOk(t, p, true)
		for i := range p.Files {
			q := clonePkg(p)
			q.Files = slices.Delete(q.Files, i, i+1)
			checkPkgOk(t, q, true)
		}
		for i := range p.Deps {
			q := clonePkg(p)
			q.Deps = slices.Delete(q.Deps, i, i+1)
			checkPkgOk(t, q, true)
		}
		checkPkgOk(t, impl.Pkg{Name: p.Name, Ver: p.Ver}, true)
	}
}

// P4
func TestNotOkAsWhatNeedsItself(t *testing.T) {
	for name := 1; name <= 4; name++ {
		for least := 1; least <= 5; least++ {
			own := impl.Dep{Name: name, Least: least}
			checkPkgOk(t, impl.Pkg{Name: name, Ver: 3, Deps: []impl.Dep{own}}, false)
			checkNone(t, wantText(impl.Pkg{Name: name, Ver: 3, Deps: []impl.Dep{own}}))
			for other := 1; other <= 4; other++ {
				deps := []impl.Dep{own, {Name: other, Least: 2}}
				slices.SortFunc(deps, func(a, b impl.Dep) int { return a.Name - b.Name })
				checkPkgOk(t, impl.Pkg{Name: name, Ver: 3, Deps: deps}, false)
				checkNone(t, wantText(impl.Pkg{Name: name, Ver: 3, Deps: deps}))
			}
		}
	}
}

func TestEmptyListIsTheNilList(t *testing.T) {
	a := impl.Pkg{Name: 3, Ver: 4}
	b := impl.Pkg{Name: 3, Ver: 4, Files: []impl.File{}, Deps: []impl.Dep{}}
	checkPkgOk(t, a, true)
	checkPkgOk(t, b, true)
	if impl.PkgText(a) != "c4" || impl.PkgText(b) != "c4" {
		t.Errorf("texts are %q and %q, want c4", impl.PkgText(a), impl.PkgText(b))
	}
}
