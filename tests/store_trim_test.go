package tests

import (
	"slices"
	"testing"

	"loop.example/purser/impl"
)

func TestStoreTrimByHand(t *testing.T) {
	s := readAll(t, "a1", "a2 0:1", "b1", "d1 a1")
	checkTrim(t, told(readAll(t, "a1", "a2 0:1", "b1", "d1 a1")), s, s)
	checkTrim(t, told(readAll(t, "a1", "a2 0:1", "b1", "c5", "d1 a1", "d2")), s, s)
	checkTrim(t, told(readAll(t, "a2 0:1", "d1 a1")), s, readAll(t, "a2 0:1", "d1 a1"))
	checkTrim(t, told(readAll(t, "a2", "d1 a2")), s, nil)
	checkTrim(t, told(readAll(t, "a2 0:2", "b1")), s, readAll(t, "b1"))
	checkTrim(t, told(readAll(t, "c1")), s, nil)
	checkTrim(t, told(nil), s, nil)
	checkTrim(t, noIndex(), s, nil)
	checkTrim(t, told(readAll(t, "a1")), nil, nil)
	checkTrim(t, noIndex(), nil, nil)
}

// P39
func TestStoreTrimIsJustWhatIsToldOf(t *testing.T) {
	for _, c := range append(someStoreCases(), smallCases(t)...) {
		got := checkTrim(t, c.trust, c.store, wantTrim(c.trust, c.store))
		checkStoreOk(t, got, true)
		for _, p := range c.store {
			kept := slices.ContainsFunc(got, func(q impl.Pkg) bool { return samePkg(p, q) })
			if _, has := impl.IndexHas(c.trust.Index, impl.PkgText(p)); has != kept {
				t.Errorf("of %v is kept %v: the index tells of it: %v", p, kept, has)
			}
		}
	}
}

// P39
func TestStoreTrimTwiceIsOnce(t *testing.T) {
	for _, c := range append(someStoreCases(), smallCases(t)...) {
		once := impl.StoreTrim(c.trust, c.store)
		checkTrim(t, c.trust, once, once)
	}
}

// P39
func TestStoreTrimWithoutAnIndex(t *testing.T) {
	for _, c := range append(someStoreCases(), smallCases(t)...) {
		checkTrim(t, noIndex(), c.store, nil)
		checkTrim(t, told(nil), c.store, nil)
	}
}

// P39: an index tells of one less, and one less, down to none.
func TestStoreTrimOfAnIndexThatTellsOfFewer(t *testing.T) {
	for _, mask := range []uint{0xff, 0xff000, 0x8c631, 0x00421} {
		s := mixed(mask, 0x3a5a5)
		for len(s) > 0 {
			checkTrim(t, told(s), s, s)
			checkTrim(t, told(s[1:]), s, s[1:])
			checkTrim(t, told(s[:len(s)-1]), s, s[:len(s)-1])
			mid := len(s) / 2
			rest := slices.Delete(slices.Clone(s), mid, mid+1)
			s = checkTrim(t, told(rest), s, rest)
		}
	}
}

func TestStoreLacksByHand(t *testing.T) {
	list := readAll(t, "a1", "a2 0:1", "c3")
	v := told(list)
	checkLacks(t, v, nil, v.Index.Metas)
	checkLacks(t, v, list, nil)
	checkLacks(t, v, readAll(t, "a2 0:1"), []impl.Meta{v.Index.Metas[0], v.Index.Metas[2]})
	checkLacks(t, v, readAll(t, "a2 0:2", "b1", "c3"), v.Index.Metas[:2])
	checkLacks(t, v, readAll(t, "a3", "a4", "d1"), v.Index.Metas)
	checkLacks(t, noIndex(), list, nil)
	checkLacks(t, told(nil), list, nil)
}

// P41: what is told of is another name, another version, or another sum than that of what is kept, the rest being the same.
func TestStoreLacksAsksForNameVersionAndSum(t *testing.T) {
	for _, text := range []string{"b2", "b2 0:5", "b2 0:5 3:7 a1 d4"} {
		s := readAll(t, text)
		own := wantMeta(s[0])
		for _, m := range append(ladder(own.Sum), ladder(own.Sum-1)...) {
			v := trusting(twoOfThree(1), impl.Index{Num: 1, Metas: []impl.Meta{m}})
			if m == own {
				checkLacks(t, v, s, nil)
				checkTrim(t, v, s, s)
			} else {
				checkLacks(t, v, s, []impl.Meta{m})
				checkTrim(t, v, s, nil)
			}
		}
		beside := ladder(own.Sum)[3:11]
		checkLacks(t, trusting(twoOfThree(1), impl.Index{Num: 1, Metas: beside}), s, slices.Delete(slices.Clone(beside), 3, 4))
	}
}

// P41
func TestStoreLacksOfAll(t *testing.T) {
	for _, c := range append(someStoreCases(), smallCases(t)...) {
		checkLacks(t, c.trust, c.store, wantLacks(c.trust, c.store))
	}
}

// P41: what lacks, and what is kept of what is told, is all that is told, none of it twice.
func TestStoreLacksAndTrimAreAll(t *testing.T) {
	for _, c := range append(someStoreCases(), smallCases(t)...) {
		all := slices.Clone(impl.StoreLacks(c.trust, c.store))
		if !slices.IsSortedFunc(all, func(a, b impl.Meta) int { return 10*(a.Name-b.Name) + a.Ver - b.Ver }) {
			t.Errorf("what lacks is in no order: %v", all)
		}
		for _, p := range impl.StoreTrim(c.trust, c.store) {
			all = append(all, wantMeta(p))
		}
		slices.SortFunc(all, func(a, b impl.Meta) int { return 10*(a.Name-b.Name) + a.Ver - b.Ver })
		if !slices.Equal(all, c.trust.Index.Metas) {
			t.Errorf("of %v together %v", c, all)
		}
	}
}

// P41: each that lacks is brought, then nothing lacks; one of another sum at its place has to go ahead of that.
func TestStoreLacksNothingWithAllKept(t *testing.T) {
	for n, c := range someStoreCases() {
		places, second := uint(n)*0x9e37&0xfffff, uint(n)*0x7f4a
		list := mixed(places, second)
		list = list[:min(len(list), 8)]
		v := told(list)
		s := checkTrim(t, v, c.store, wantTrim(v, c.store))
		for i, m := range impl.StoreLacks(v, s) {
			at := slices.IndexFunc(list, atPlace(m.Name, m.Ver))
			s = checkAdd(t, v, s, wantText(list[at]), true)
			checkLacks(t, v, s, wantLacks(v, c.store)[i+1:])
		}
		checkLacks(t, v, s, nil)
		if !samePkgs(s, list) {
			t.Errorf("kept is %v, not %v", s, list)
		}
	}
}

// P43: but for one of the name and version of the text that is kept and of which the index does not tell.
func TestStoreTrimBehindAddIsAddBehindTrim(t *testing.T) {
	tried := 0
	for _, c := range append(someStoreCases(), smallCases(t)...) {
		for _, text := range append(twinTexts(), smallTexts()...) {
			p, _ := impl.PkgRead(text)
			if i := slices.IndexFunc(c.store, atPlace(p.Name, p.Ver)); i >= 0 && !tellsOf(c.trust, wantText(c.store[i])) && tellsOf(c.trust, text) {
				continue
			}
			tried++
			added, ok := impl.StoreAdd(c.trust, c.store, text)
			trimmed, okLater := impl.StoreAdd(c.trust, impl.StoreTrim(c.trust, c.store), text)
			if !samePkgs(impl.StoreTrim(c.trust, added), trimmed) || ok != okLater {
				t.Errorf("%v with %q: %v, %v or %v, %v", c, text, impl.StoreTrim(c.trust, added), ok, trimmed, okLater)
			}
		}
	}
	if tried == 0 {
		t.Error("nothing was tried")
	}
}

// The chapter asks StoreAdd for the name and the version of what is kept alone: what the index tells of no more is in the way until it is trimmed.
func TestStoreTrimMakesRoom(t *testing.T) {
	both := twins()
	for i := range both[0] {
		for kind := range 2 {
			elder, newer := both[kind][i], both[1-kind][i]
			v := told([]impl.Pkg{newer})
			s := checkAdd(t, v, []impl.Pkg{elder}, wantText(newer), false)
			checkLacks(t, v, s, v.Index.Metas)
			s = checkAdd(t, v, checkTrim(t, v, s, nil), wantText(newer), true)
			checkLacks(t, v, s, nil)
		}
	}
}
