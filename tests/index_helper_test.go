package tests

import (
	"fmt"
	"math/rand"
	"regexp"
	"slices"
	"strconv"
	"strings"
	"testing"

	"loop.example/purser/impl"
)

// indexForm is the form of an index's text as the document's words give it; order, and how great sums are, is asked for beside it.
var indexForm = regexp.MustCompile(`\A([1-9]|[12][0-9]|30) ([0-9]|[1-5][0-9]|60)\n([a-d][1-5] (0|[1-9][0-9]{0,3})\n){0,8}\z`)

// isIndexText says, without the program, whether a text is that of an ok index.
func isIndexText(text string) bool {
	if !indexForm.MatchString(text) {
		return false
	}
	last := ""
	for _, line := range strings.Split(strings.TrimSuffix(text, "\n"), "\n")[1:] {
		if sum, err := strconv.Atoi(line[3:]); err != nil || sum > 9972 || line[:2] <= last {
			return false
		}
		last = line[:2]
	}
	return true
}

// wantIndexText writes, without the program, the text of an index that is ok.
func wantIndexText(x impl.Index) string {
	out := fmt.Sprintf("%d %d\n", x.Num, x.Until)
	for _, m := range x.Metas {
		out += fmt.Sprintf("%c%d %d\n", rune('a'+m.Name-1), m.Ver, m.Sum)
	}
	return out
}

// wantSum is, without the program, the sum of a text.
func wantSum(text string) int {
	sum := 7
	for i := range len(text) {
		sum = nextSum(sum, text[i])
	}
	return sum
}

// wantMeta is, without the program, what an index has to tell of a package that is ok.
func wantMeta(p impl.Pkg) impl.Meta {
	return impl.Meta{Name: p.Name, Ver: p.Ver, Sum: wantSum(wantText(p))}
}

// wantHas says, without the program, whether an ok index tells of the package of a text.
func wantHas(x impl.Index, text string) bool {
	if !isPkgText(text) {
		return false
	}
	m := impl.Meta{Name: int(text[0]-'a') + 1, Ver: int(text[1] - '0'), Sum: wantSum(text)}
	return slices.Contains(x.Metas, m)
}

// sameIndex takes the empty list and the nil list as the same value.
func sameIndex(a, b impl.Index) bool {
	return a.Num == b.Num && a.Until == b.Until && slices.Equal(a.Metas, b.Metas)
}

func cloneIndex(x impl.Index) impl.Index {
	x.Metas = slices.Clone(x.Metas)
	return x
}

func clonePkgs(list []impl.Pkg) []impl.Pkg {
	out := []impl.Pkg{}
	for _, p := range list {
		out = append(out, clonePkg(p))
	}
	return out
}

// withoutMeta is a new index, one place of what it tells left out.
func withoutMeta(x impl.Index, place int) impl.Index {
	x.Metas = slices.Delete(slices.Clone(x.Metas), place, place+1)
	return x
}

// ladder is one Meta of each name and version, in order, the sums taken in turn.
func ladder(sums ...int) []impl.Meta {
	out := []impl.Meta{}
	for name := 1; name <= 4; name++ {
		for ver := 1; ver <= 5; ver++ {
			out = append(out, impl.Meta{Name: name, Ver: ver, Sum: sums[len(out)%len(sums)]})
		}
	}
	return out
}

// pick is some of a list, in order, those whose bits a mask has.
func pick[T any](list []T, mask uint) []T {
	out := []T{}
	for i, v := range list {
		if mask&(1<<i) != 0 {
			out = append(out, v)
		}
	}
	return out
}

// randomPicks are masks of 0 to 8 of 20 places, as many of each size.
func randomPicks(r *rand.Rand, each int) []uint {
	out := []uint{}
	for size := 0; size <= 8; size++ {
		for range each {
			mask := uint(0)
			for _, i := range r.Perm(20)[:size] {
				mask |= 1 << i
			}
			out = append(out, mask)
		}
	}
	return out
}

// someIndexes are a few hundred ok indexes: none to eight told of, and the ends of all bounds.
func someIndexes() []impl.Index {
	r := rand.New(rand.NewSource(30))
	sums := []int{0, 9972, 1, 10, 99, 100, 999, 1000, 7, 4711, 9971}
	out := []impl.Index{}
	for i, mask := range randomPicks(r, 25) {
		num, until := 1+i%30, (i*7)%61
		out = append(out, impl.Index{Num: num, Until: until, Metas: pick(ladder(sums...), mask)})
	}
	for _, mask := range []uint{0, 0xff, 0xff000, 0x1f} {
		for _, num := range []int{1, 9, 10, 30} {
			for _, until := range []int{0, 9, 10, 60} {
				out = append(out, impl.Index{Num: num, Until: until, Metas: pick(ladder(9972), mask)})
			}
		}
	}
	return out
}

// oddIndexes are indexes that are not ok, each for one cause alone but the first.
func oddIndexes() []impl.Index {
	a1, a2, b1 := impl.Meta{Name: 1, Ver: 1, Sum: 9815}, impl.Meta{Name: 1, Ver: 2, Sum: 5}, impl.Meta{Name: 2, Ver: 1, Sum: 5}
	out := []impl.Index{{}}
	for _, n := range append([]int{-1, 0, 31, 32}, farNumbers...) {
		out = append(out, impl.Index{Num: n, Until: 5, Metas: []impl.Meta{a1, b1}})
	}
	for _, n := range append([]int{-2, -1, 61, 62}, farNumbers...) {
		out = append(out, impl.Index{Num: 5, Until: n, Metas: []impl.Meta{a1, b1}})
	}
	a1b := impl.Meta{Name: 1, Ver: 1, Sum: 9816}
	lists := [][]impl.Meta{
		{a1, a1}, {a1, a1b}, {a1b, a1}, {a2, a1}, {b1, a1}, {b1, a2}, {a1, b1, b1}, {a1, b1, a2}, {a1, a2, a1}, {b1, a1, a2}, {a1, {}}, {{}, a1}, {{}},
		ladder(5)[:9], ladder(5), slices.Repeat([]impl.Meta{a1}, 9), slices.Repeat([]impl.Meta{a1, b1}, 1000),
	}
	for _, n := range append([]int{-1, 0}, farNumbers...) {
		lists = append(lists, []impl.Meta{{Name: n, Ver: 1, Sum: 5}, b1}, []impl.Meta{{Name: 1, Ver: n, Sum: 5}, b1})
	}
	for _, n := range append([]int{5, 6, 7}, farNumbers...) {
		lists = append(lists, []impl.Meta{a1, {Name: n, Ver: 1, Sum: 5}}, []impl.Meta{a1, {Name: 2, Ver: n + 1, Sum: 5}})
	}
	for _, n := range append([]int{-2, -1, 9973, 9974}, farNumbers...) {
		lists = append(lists, []impl.Meta{{Name: 1, Ver: 1, Sum: n}, b1}, []impl.Meta{a1, {Name: 2, Ver: 1, Sum: n}})
	}
	for _, metas := range lists {
		out = append(out, impl.Index{Num: 5, Until: 5, Metas: metas})
	}
	return out
}

// somePkgLists are lists of packages of which an index can be made: none to eight, of any shape, many with several versions of a name.
func somePkgLists() [][]impl.Pkg {
	r := rand.New(rand.NewSource(31))
	shapes := [][]impl.Pkg{nil, nil, nil, nil}
	eachPkg([]int{1}, []int{0, 9}, func(p impl.Pkg) {
		shapes[p.Name-1] = append(shapes[p.Name-1], p)
	})
	out := [][]impl.Pkg{}
	for _, mask := range randomPicks(r, 12) {
		list := []impl.Pkg{}
		for _, m := range pick(ladder(0), mask) {
			p := clonePkg(shapes[m.Name-1][r.Intn(len(shapes[m.Name-1]))])
			p.Ver = m.Ver
			list = append(list, p)
		}
		out = append(out, list)
	}
	return out
}

// readAll reads texts that are ok.
func readAll(t *testing.T, texts ...string) []impl.Pkg {
	t.Helper()
	out := []impl.Pkg{}
	for _, s := range texts {
		out = append(out, mustRead(t, s))
	}
	return out
}

// mustIndexOf is the index of packages of which one can be made.
func mustIndexOf(t *testing.T, list []impl.Pkg) impl.Index {
	t.Helper()
	x, ok := impl.IndexOf(3, 9, list)
	if !ok {
		t.Fatalf("IndexOf(3, 9, %v) is false", list)
	}
	return x
}

func checkIndexOf(t *testing.T, num, until int, list []impl.Pkg, want impl.Index, wantOk bool) {
	t.Helper()
	if got, ok := impl.IndexOf(num, until, list); ok != wantOk || !sameIndex(got, want) {
		t.Errorf("IndexOf(%d, %d, %v) = %v, %v; want %v, %v", num, until, list, got, ok, want, wantOk)
	}
}

// checkHas asks for IndexHas, and that a package is told just beside a true.
func checkHas(t *testing.T, x impl.Index, text string, want bool) {
	t.Helper()
	p, ok := impl.IndexHas(x, text)
	if ok != want || ok && (!impl.PkgOk(p) || wantText(p) != text) || !ok && !samePkg(p, impl.Pkg{}) {
		t.Errorf("IndexHas(%v, %q) = %v, %v; want %v", x, text, p, ok, want)
	}
}

// checkNoIndex asks that a text is no index's, and that nothing is answered beside the false.
func checkNoIndex(t *testing.T, text string) {
	t.Helper()
	x, ok := impl.IndexRead(text)
	if ok || !sameIndex(x, impl.Index{}) {
		t.Errorf("IndexRead(%q) = %v, %v; want nothing and false", text, x, ok)
	}
}

// checkIndexRead holds IndexRead of any text against the form that the document gives.
func checkIndexRead(t *testing.T, text string) {
	t.Helper()
	if !isIndexText(text) {
		checkNoIndex(t, text)
		return
	}
	x, ok := impl.IndexRead(text)
	if !ok || !impl.IndexOk(x) || impl.IndexText(x) != text || wantIndexText(x) != text {
		t.Errorf("IndexRead(%q) = %v, %v", text, x, ok)
	}
}
