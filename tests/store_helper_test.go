package tests

import (
	"math/rand"
	"slices"
	"strings"
	"testing"

	"loop.example/purser/impl"
)

// isPkg says, without the program, whether a package is ok.
func isPkg(p impl.Pkg) bool {
	// A name far out of bounds would be a letter once its bits are cut off.
	isName := func(n int) bool { return 1 <= n && n <= 4 }
	if !isName(p.Name) || len(p.Files) > 2 || len(p.Deps) > 2 {
		return false
	}
	for _, d := range p.Deps {
		if !isName(d.Name) {
			return false
		}
	}
	return isPkgText(wantText(p))
}

// isStore says, without the program, whether packages are such as may be kept.
func isStore(s []impl.Pkg) bool {
	last := 0
	for _, p := range s {
		if !isPkg(p) || 10*p.Name+p.Ver <= last {
			return false
		}
		last = 10*p.Name + p.Ver
	}
	return true
}

// handPkg is, without the program, the package of a text that is one's.
func handPkg(text string) impl.Pkg {
	p := impl.Pkg{Name: int(text[0]-'a') + 1, Ver: int(text[1] - '0')}
	for _, w := range strings.Split(text, " ")[1:] {
		if w[1] == ':' {
			p.Files = append(p.Files, impl.File{Path: int(w[0] - '0'), Data: int(w[2] - '0')})
		} else {
			p.Deps = append(p.Deps, impl.Dep{Name: int(w[0]-'a') + 1, Least: int(w[1] - '0')})
		}
	}
	return p
}

// tellsOf says, without the program, whether trust that is ok has an index, and that tells of a text.
func tellsOf(v impl.Trust, text string) bool {
	return v.Has && wantHas(v.Index, text)
}

// atPlace says whether a package is of that name and version.
func atPlace(name, ver int) func(impl.Pkg) bool {
	return func(p impl.Pkg) bool { return p.Name == name && p.Ver == ver }
}

// wantAdd is, without the program, what StoreAdd answers.
func wantAdd(v impl.Trust, s []impl.Pkg, text string) ([]impl.Pkg, bool) {
	if !isTrust(v) || !isStore(s) {
		return nil, false
	}
	if !tellsOf(v, text) {
		return s, false
	}
	p := handPkg(text)
	if slices.ContainsFunc(s, atPlace(p.Name, p.Ver)) {
		return s, false
	}
	return inOrder(append(slices.Clone(s), p)), true
}

// inOrder is packages by name, then by version.
func inOrder(list []impl.Pkg) []impl.Pkg {
	out := slices.Clone(list)
	slices.SortFunc(out, func(a, b impl.Pkg) int { return 10*(a.Name-b.Name) + a.Ver - b.Ver })
	return out
}

// wantTrim is, without the program, what StoreTrim answers.
func wantTrim(v impl.Trust, s []impl.Pkg) []impl.Pkg {
	if !isTrust(v) || !isStore(s) {
		return nil
	}
	return slices.DeleteFunc(slices.Clone(s), func(p impl.Pkg) bool { return !tellsOf(v, wantText(p)) })
}

// wantNewest is, without the program, what StoreNewest answers.
func wantNewest(s []impl.Pkg, name int) (impl.Pkg, bool) {
	if !isStore(s) {
		return impl.Pkg{}, false
	}
	for ver := 5; ver >= 1; ver-- {
		if i := slices.IndexFunc(s, atPlace(name, ver)); i >= 0 {
			return s[i], true
		}
	}
	return impl.Pkg{}, false
}

// wantLacks is, without the program, what StoreLacks answers.
func wantLacks(v impl.Trust, s []impl.Pkg) []impl.Meta {
	if !isTrust(v) || !isStore(s) {
		return nil
	}
	kept := []impl.Meta{}
	for _, p := range s {
		kept = append(kept, wantMeta(p))
	}
	return slices.DeleteFunc(slices.Clone(v.Index.Metas), func(m impl.Meta) bool { return slices.Contains(kept, m) })
}

func samePkgs(a, b []impl.Pkg) bool {
	return slices.EqualFunc(a, b, samePkg)
}

// told is trust in an index of these packages, which are in order.
func told(list []impl.Pkg) impl.Trust {
	return trusting(twoOfThree(1), wantIndex(3, 9, list))
}

// noIndex is trust in a root alone.
func noIndex() impl.Trust {
	return impl.Trust{Root: twoOfThree(1)}
}

// twins are two packages of each name and version, in order, the two of other texts and other sums.
func twins() [2][]impl.Pkg {
	out := [2][]impl.Pkg{}
	for i, m := range ladder(0) {
		p := impl.Pkg{Name: m.Name, Ver: m.Ver}
		q := impl.Pkg{Name: m.Name, Ver: m.Ver, Files: []impl.File{{Path: i % 5, Data: i % 10}, {Path: 5, Data: 9}}}
		if i%3 > 0 {
			p.Deps = []impl.Dep{{Name: 1 + m.Name%4, Least: 1 + i%5}}
			q.Deps = []impl.Dep{{Name: 1 + (m.Name+1)%4, Least: 5}}
		}
		out[0], out[1] = append(out[0], p), append(out[1], q)
	}
	return out
}

// twinTexts are the texts of all twins, and some that are none.
func twinTexts() []string {
	texts := []string{"", "a", "a1 ", "a01", "e1", "a6", "a0", "d5 5:9 5:9", "\xff", strings.Repeat("a1", 16)}
	for _, list := range twins() {
		for _, p := range list {
			texts = append(texts, wantText(p))
		}
	}
	return texts
}

// mixed is one twin of each place of a mask, of the second kind at those of another.
func mixed(places, second uint) []impl.Pkg {
	both, out := twins(), []impl.Pkg{}
	for i := range both[0] {
		if places&(1<<i) != 0 {
			out = append(out, clonePkg(both[second>>i&1][i]))
		}
	}
	return out
}

// storeCase is what is trusted, and what is kept.
type storeCase struct {
	trust impl.Trust
	store []impl.Pkg
}

// someStoreCases are ok: none to twenty are kept; of all of them, of some, of others at the same places, and of none the index tells, or there is none.
func someStoreCases() []storeCase {
	r := rand.New(rand.NewSource(37))
	masks, out := randomPicks(r, 12), []storeCase{}
	for _, mask := range masks {
		keep, kind := uint(r.Intn(1<<20))&uint(r.Intn(1<<20)), uint(r.Intn(1<<20))
		out = append(out,
			storeCase{told(mixed(mask, kind)), mixed(keep, kind)},
			storeCase{told(mixed(mask, kind)), mixed(keep|mask, kind^1<<r.Intn(20))},
			storeCase{told(mixed(mask, kind)), mixed(mask, kind)},
			storeCase{told(mixed(mask, kind)), mixed(mask&keep, kind)},
			storeCase{told(mixed(mask, kind)), mixed(keep|mask, ^kind)},
			storeCase{told(mixed(mask, kind)), mixed(keep&^mask, kind)},
			storeCase{noIndex(), mixed(keep, kind)})
	}
	for _, v := range []impl.Trust{noIndex(), told(nil), told(mixed(0xff, 0)), told(mixed(0xff000, 0)), told(mixed(1, 1))} {
		for _, places := range []uint{0, 1, 1 << 19, 0x1f, 0x8421, 0xfffff} {
			out = append(out, storeCase{v, mixed(places, 0)}, storeCase{v, mixed(places, 0xfffff)})
		}
	}
	return out
}

// smallCases are all of few packages: of some of which, or of another one at the same place, the index tells, or there is none.
func smallCases(t *testing.T) []storeCase {
	t.Helper()
	lists := [][]impl.Pkg{nil}
	for _, texts := range [][]string{{"a1", "a1 0:1"}, {"a2 0:1 c1"}, {"c1", "c1 a1 b5"}} {
		for _, list := range slices.Clone(lists) {
			for _, text := range texts {
				lists = append(lists, append(slices.Clone(list), mustRead(t, text)))
			}
		}
	}
	out := []storeCase{}
	for _, kept := range lists {
		out = append(out, storeCase{noIndex(), kept})
		for _, list := range lists {
			out = append(out, storeCase{told(list), kept})
		}
	}
	return out
}

// smallTexts are those of the small cases, others at the same places, and beside them, and texts that are none.
func smallTexts() []string {
	return []string{"a1", "a1 0:1", "a2 0:1 c1", "c1", "c1 a1 b5", "a1 0:2", "a2", "a2 0:1 c2", "a3", "b1", "d1", "c2", "", "a1 ", "a", "c1 b5 a1", "a2 0:1  c1"}
}

// oddStores are packages that may not be kept: one is not ok, they are not in order, or one is there twice.
func oddStores(t *testing.T) [][]impl.Pkg {
	t.Helper()
	out := [][]impl.Pkg{}
	for _, odd := range oddPkgs() {
		out = append(out, []impl.Pkg{odd}, append(readAll(t, "a1", "b2"), odd), append([]impl.Pkg{odd}, readAll(t, "b4", "c1")...),
			append(append(readAll(t, "a1", "b2"), odd), readAll(t, "b4", "c1")...))
	}
	for _, n := range append([]int{-1, 0, 5, 6}, farNumbers...) {
		out = append(out, []impl.Pkg{{Name: n, Ver: 1}}, append(readAll(t, "a1"), impl.Pkg{Name: n, Ver: 1}), append([]impl.Pkg{{Name: n, Ver: 1}}, readAll(t, "d5")...))
	}
	for _, n := range append([]int{-1, 0, 6, 7}, farNumbers...) {
		out = append(out, []impl.Pkg{{Name: 2, Ver: n}}, append(readAll(t, "a1"), impl.Pkg{Name: 2, Ver: n}), append([]impl.Pkg{{Name: 2, Ver: n}}, readAll(t, "d5")...))
	}
	for _, texts := range [][]string{
		{"a1", "a1"}, {"a1", "a1 0:1"}, {"a1 0:1", "a1"}, {"a2", "a1"}, {"b1", "a1"}, {"b1", "a2"}, {"b2", "a1"}, {"a1", "b1", "a2"}, {"a1", "b1", "b1"},
		{"a1", "a2", "a1"}, {"a1", "a3", "a2"}, {"b1", "a1", "a2"}, {"a1", "c1", "b1"}, {"a1", "b1", "c1", "d1", "a1"}, {"d1", "c1", "b1", "a1"},
	} {
		out = append(out, readAll(t, texts...))
	}
	return append(out, slices.Repeat(mixed(0xfffff, 0), 2), slices.Repeat(mixed(0xfffff, 0), 500), make([]impl.Pkg, 1), make([]impl.Pkg, 1000))
}

func checkStoreOk(t *testing.T, s []impl.Pkg, want bool) {
	t.Helper()
	if got := impl.StoreOk(s); got != want || isStore(s) != want {
		t.Errorf("StoreOk(%v) = %v, want %v", s, got, want)
	}
}

// checkAdd asks whether a text is taken, and that all else is as the document says, and tells what is kept then.
func checkAdd(t *testing.T, v impl.Trust, s []impl.Pkg, text string, want bool) []impl.Pkg {
	t.Helper()
	got, ok := impl.StoreAdd(v, s, text)
	if after, _ := wantAdd(v, s, text); ok != want || !samePkgs(got, after) {
		t.Errorf("StoreAdd(%v, %v, %q) = %v, %v; want %v, %v", v, s, text, got, ok, after, want)
	}
	return got
}

// checkTrim asks for StoreTrim, and tells what is kept then.
func checkTrim(t *testing.T, v impl.Trust, s []impl.Pkg, want []impl.Pkg) []impl.Pkg {
	t.Helper()
	got := impl.StoreTrim(v, s)
	if !samePkgs(got, want) {
		t.Errorf("StoreTrim(%v, %v) = %v, want %v", v, s, got, want)
	}
	return got
}

func checkNewest(t *testing.T, s []impl.Pkg, name int, want impl.Pkg, wantOk bool) {
	t.Helper()
	if got, ok := impl.StoreNewest(s, name); ok != wantOk || !samePkg(got, want) {
		t.Errorf("StoreNewest(%v, %d) = %v, %v; want %v, %v", s, name, got, ok, want, wantOk)
	}
}

func checkLacks(t *testing.T, v impl.Trust, s []impl.Pkg, want []impl.Meta) {
	t.Helper()
	if got := impl.StoreLacks(v, s); !slices.Equal(got, want) {
		t.Errorf("StoreLacks(%v, %v) = %v, want %v", v, s, got, want)
	}
}
