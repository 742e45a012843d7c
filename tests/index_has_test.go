package tests

import (
	"strings"
	"testing"

	"loop.example/purser/impl"
)

// someTexts are texts of packages, and texts that are close to some but are none.
func someTexts() []string {
	texts := []string{"", "a", "1", "a1 ", " a1", "a1\n", "a01", "a1 b", "e1", "a6", "a1 a1", "a1 0:1 ", "a1 b1 0:1", "\xff", strings.Repeat("a1 ", 20)}
	for i, p := range somePkgs() {
		texts = append(texts, wantText(p))
		if i%7 == 0 {
			texts = append(texts, wantText(p)+" ", wantText(p)[1:])
		}
	}
	for _, m := range ladder(0) {
		texts = append(texts, wantText(impl.Pkg{Name: m.Name, Ver: m.Ver}))
	}
	return texts
}

func TestIndexHasByHand(t *testing.T) {
	x := mustIndexOf(t, readAll(t, "a1 0:1", "a2", "c1"))
	for _, text := range []string{"a1 0:1", "a2", "c1"} {
		checkHas(t, x, text, true)
	}
	for _, text := range []string{"", "a1", "a1 0:2", "a1 1:1", "a2 0:1", "a3", "b1", "c2", "c1 ", "d1", "c", "a1 0:1 b1"} {
		checkHas(t, x, text, false)
	}
	checkHas(t, impl.Index{Num: 1}, "a1", false)
	checkHas(t, impl.Index{Num: 1, Metas: []impl.Meta{{Name: 1, Ver: 1, Sum: 9815}}}, "a1", true)
}

// P23
func TestIndexHasEachPackage(t *testing.T) {
	for _, list := range somePkgLists() {
		x := mustIndexOf(t, list)
		if len(x.Metas) != len(list) {
			t.Errorf("%v tells of %d packages, not of %d", x, len(x.Metas), len(list))
		}
		for _, p := range list {
			if q, ok := impl.IndexHas(x, impl.PkgText(p)); !ok || !samePkg(p, q) {
				t.Errorf("IndexHas(%v, %q) = %v, %v", x, impl.PkgText(p), q, ok)
			}
		}
	}
}

// P24
func TestIndexHasNotWithAByteChanged(t *testing.T) {
	for _, list := range somePkgLists() {
		x := mustIndexOf(t, list)
		for _, p := range list {
			text := impl.PkgText(p)
			checkHas(t, x, text, true)
			for i := 2; i < len(text); i++ {
				for c := range 256 {
					b := []byte(text)
					b[i] = byte(c)
					if b[i] != text[i] {
						checkHas(t, x, string(b), false)
					}
				}
			}
		}
	}
}

// P25: also with a byte of its name or version changed, one more, or one less.
func TestIndexHasJustWhatItTellsOf(t *testing.T) {
	for n, list := range somePkgLists() {
		x := mustIndexOf(t, list)
		for _, p := range list {
			text := impl.PkgText(p)
			for end := range text {
				checkHas(t, x, text[:end], wantHas(x, text[:end]))
			}
			for c := range 256 {
				one := string([]byte{byte(c)})
				for _, s := range []string{one + text[1:], text[:1] + one + text[2:], text + one, one + text} {
					checkHas(t, x, s, wantHas(x, s))
				}
			}
		}
		if n%4 == 0 {
			for _, text := range someTexts() {
				checkHas(t, x, text, wantHas(x, text))
			}
		}
	}
	for n, x := range someIndexes() {
		if n%4 == 0 {
			for _, text := range someTexts() {
				checkHas(t, x, text, wantHas(x, text))
			}
		}
	}
}

// P25: a Meta differs from that of a package in its name, its version, or its sum alone; the right one stands beside others, or not at all.
func TestIndexHasAsksForNameVersionAndSum(t *testing.T) {
	for _, text := range []string{"b2", "b2 0:5", "b2 0:5 3:7 a1 d4", "b2 a1"} {
		m := wantMeta(mustRead(t, text))
		for _, other := range ladder(m.Sum) {
			checkHas(t, impl.Index{Num: 1, Metas: []impl.Meta{other}}, text, other == m)
		}
		checkHas(t, impl.Index{Num: 1, Metas: ladder(m.Sum)[:6]}, text, false)
		checkHas(t, impl.Index{Num: 1, Metas: ladder(m.Sum)[:7]}, text, true)
		checkHas(t, impl.Index{Num: 1, Metas: ladder(m.Sum)[6:14]}, text, true)
		checkHas(t, impl.Index{Num: 1, Metas: ladder(m.Sum)[7:15]}, text, false)
		for sum := range 9973 {
			checkHas(t, impl.Index{Num: 1, Metas: []impl.Meta{{Name: 2, Ver: 1, Sum: m.Sum}, {Name: 2, Ver: 2, Sum: sum}, {Name: 2, Ver: 3, Sum: m.Sum}}}, text, sum == m.Sum)
		}
	}
}

// P25: of two packages of one name, version and sum an index tells, whichever of them it was made of; each is told as itself.
func TestIndexHasTwoOfOneSum(t *testing.T) {
	first := map[int]impl.Pkg{}
	same := 0
	eachPkg([]int{1}, []int{0, 3, 9}, func(p impl.Pkg) {
		if p.Name != 1 {
			return
		}
		sum := wantSum(wantText(p))
		q, found := first[sum]
		if !found {
			first[sum] = p
			return
		}
		same++
		for _, list := range [][]impl.Pkg{{p}, {q}} {
			x := mustIndexOf(t, list)
			checkHas(t, x, wantText(p), true)
			checkHas(t, x, wantText(q), true)
		}
	})
	if same == 0 {
		t.Error("no two packages of one sum")
	}
	for _, text := range []string{"a1 ", "a1\n", "a01", "a1 a1", "a1 0:1 ", "a1" + strings.Repeat(" ", 29), "a1 b1 0:1"} {
		checkHas(t, impl.Index{Num: 1, Metas: []impl.Meta{{Name: 1, Ver: 1, Sum: wantSum(text)}}}, text, false)
	}
}

func TestIndexThatIsNotOkHasNothing(t *testing.T) {
	for _, x := range oddIndexes() {
		for _, text := range []string{"", "a1", "a2", "b1", "b2 0:5"} {
			checkHas(t, x, text, false)
		}
	}
	list := readAll(t, "a1", "a2 0:1", "b1")
	x := mustIndexOf(t, list)
	x.Metas[0], x.Metas[1] = x.Metas[1], x.Metas[0]
	for _, p := range list {
		checkHas(t, x, wantText(p), false)
	}
}

// P26, P27
func TestIndexHasWithOneLeftOut(t *testing.T) {
	for n, list := range somePkgLists() {
		x := mustIndexOf(t, list)
		texts := []string{"a1", "a2", "b1", "c3 0:1", "", "a1 "}
		for _, p := range list {
			texts = append(texts, wantText(p))
		}
		if n%9 == 0 {
			texts = append(texts, someTexts()...)
		}
		for i, p := range list {
			y := withoutMeta(x, i)
			checkIndexOk(t, y, true)
			checkHas(t, y, wantText(p), false)
			for _, text := range texts {
				if _, was := impl.IndexHas(x, text); text != wantText(p) {
					checkHas(t, y, text, was)
				} else if !was {
					t.Errorf("IndexHas(%v, %q) is false", x, text)
				}
			}
		}
	}
}
