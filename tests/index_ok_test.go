package tests

import (
	"math/bits"
	"slices"
	"testing"

	"loop.example/purser/impl"
)

// checkIndexOk asks for IndexOk, and that just an index that is ok has a text.
func checkIndexOk(t *testing.T, x impl.Index, want bool) {
	t.Helper()
	if got := impl.IndexOk(x); got != want {
		t.Errorf("IndexOk(%v) = %v, want %v", x, got, want)
	}
	text := ""
	if want {
		text = wantIndexText(x)
	}
	if got := impl.IndexText(x); got != text {
		t.Errorf("IndexText(%v) = %q, want %q", x, got, text)
	}
}

func TestIndexLimitValues(t *testing.T) {
	got := []int{impl.MetaMax, impl.IndexMax, impl.TimeMax, impl.LifeMax}
	if want := []int{8, 30, 60, 6}; !slices.Equal(got, want) {
		t.Errorf("limits are %v, want %v", got, want)
	}
}

func TestIndexOkByHand(t *testing.T) {
	checkIndexOk(t, impl.Index{Num: 1}, true)
	checkIndexOk(t, impl.Index{Num: 30, Until: 60, Metas: []impl.Meta{}}, true)
	checkIndexOk(t, impl.Index{Num: 3, Until: 9, Metas: []impl.Meta{{Name: 1, Ver: 1}, {Name: 1, Ver: 2}, {Name: 3, Ver: 1}}}, true)
	checkIndexOk(t, impl.Index{Num: 3, Until: 9, Metas: []impl.Meta{{Name: 1, Ver: 5, Sum: 9972}, {Name: 2, Ver: 1}}}, true)
	for _, x := range someIndexes() {
		checkIndexOk(t, x, true)
	}
	for _, x := range oddIndexes() {
		checkIndexOk(t, x, false)
	}
}

func TestIndexOkAtItsBounds(t *testing.T) {
	numbers := append([]int{9970, 9971, 9972, 9973, 9974, 9975}, farNumbers...)
	for n := -70; n <= 300; n++ {
		numbers = append(numbers, n)
	}
	a2, b3 := impl.Meta{Name: 1, Ver: 2, Sum: 4}, impl.Meta{Name: 2, Ver: 3, Sum: 4}
	ok := func(want bool, metas ...impl.Meta) {
		t.Helper()
		checkIndexOk(t, impl.Index{Num: 1, Metas: metas}, want)
	}
	for _, n := range numbers {
		checkIndexOk(t, impl.Index{Num: n}, 1 <= n && n <= 30)
		checkIndexOk(t, impl.Index{Num: n, Until: 60, Metas: []impl.Meta{a2, b3}}, 1 <= n && n <= 30)
		checkIndexOk(t, impl.Index{Num: 1, Until: n}, 0 <= n && n <= 60)
		checkIndexOk(t, impl.Index{Num: 30, Until: n, Metas: []impl.Meta{a2, b3}}, 0 <= n && n <= 60)
		ok(1 <= n && n <= 4, impl.Meta{Name: n, Ver: 1, Sum: 4})
		ok(1 <= n && n <= 5, impl.Meta{Name: 1, Ver: n, Sum: 4})
		ok(0 <= n && n <= 9972, impl.Meta{Name: 1, Ver: 1, Sum: n})
		ok(0 <= n && n <= 9972, a2, impl.Meta{Name: 2, Ver: 1, Sum: n})
		ok(0 <= n && n <= 9972, impl.Meta{Name: 1, Ver: 2, Sum: n}, b3)
		ok(2 <= n && n <= 4, a2, impl.Meta{Name: n, Ver: 1, Sum: 4})
		ok(2 <= n && n <= 4, a2, impl.Meta{Name: n, Ver: 2, Sum: 5})
		ok(3 <= n && n <= 5, a2, impl.Meta{Name: 1, Ver: n, Sum: 0})
		ok(1 <= n && n <= 5, a2, impl.Meta{Name: 2, Ver: n, Sum: 0})
		ok(1 <= n && n <= 2, impl.Meta{Name: 2, Ver: n, Sum: 9}, b3)
		ok(1 <= n && n <= 5, impl.Meta{Name: 1, Ver: n, Sum: 9}, b3)
	}
}

// Two that are told of, of each name and version, in order, out of order, and twice, whatever their sums are.
func TestIndexOrderOfTwo(t *testing.T) {
	for i, a := range ladder(5) {
		for j, b := range ladder(5) {
			for _, sums := range [][]int{{4, 4}, {4, 5}, {5, 4}, {0, 9972}, {9972, 0}} {
				a.Sum, b.Sum = sums[0], sums[1]
				checkIndexOk(t, impl.Index{Num: 2, Until: 2, Metas: []impl.Meta{a, b}}, i < j)
			}
		}
	}
}

func TestIndexOrderOfThree(t *testing.T) {
	list := ladder(7, 3)
	for i, a := range list {
		for j, b := range list {
			for k, c := range list {
				if x := (impl.Index{Num: 2, Until: 2, Metas: []impl.Meta{a, b, c}}); impl.IndexOk(x) != (i < j && j < k) {
					t.Errorf("IndexOk(%v) = %v", x, impl.IndexOk(x))
				}
			}
		}
	}
}

func TestHowManyAnIndexTells(t *testing.T) {
	for n := 0; n <= 20; n++ {
		checkIndexOk(t, impl.Index{Num: 1, Until: 1, Metas: ladder(5)[:n]}, n <= 8)
		checkIndexOk(t, impl.Index{Num: 1, Until: 1, Metas: ladder(5)[20-n:]}, n <= 8)
	}
	checkIndexOk(t, impl.Index{Num: 1, Until: 1, Metas: make([]impl.Meta, 100000)}, false)
	checkIndexOk(t, impl.Index{Num: 1, Until: 1, Metas: slices.Repeat(ladder(5), 5000)}, false)
}

// P20, P26: all that can be told of, in order; without any of it an index is another one of these.
func TestEveryIndexOfNamesAndVersions(t *testing.T) {
	list := ladder(0, 7, 42, 815, 9972)
	count := 0
	for mask := range uint(1 << 20) {
		if bits.OnesCount(mask) > 8 {
			continue
		}
		count++
		x := impl.Index{Num: 1 + count%30, Until: count % 61, Metas: pick(list, mask)}
		text := impl.IndexText(x)
		y, ok := impl.IndexRead(text)
		if !ok || !impl.IndexOk(x) || !sameIndex(x, y) {
			t.Fatalf("IndexRead(%q) = %v, %v; want %v", text, y, ok, x)
		}
	}
	if count != 263950 {
		t.Errorf("went through %d indexes", count)
	}
}

// P26
func TestIndexWithoutAnyIsOk(t *testing.T) {
	for _, x := range someIndexes() {
		for i := range x.Metas {
			checkIndexOk(t, withoutMeta(x, i), true)
		}
		for mask := range uint(1) << len(x.Metas) {
			y := impl.Index{Num: x.Num, Until: x.Until, Metas: pick(x.Metas, mask)}
			checkIndexOk(t, y, true)
		}
	}
}
