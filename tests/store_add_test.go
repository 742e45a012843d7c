package tests

import (
	"math/rand"
	"slices"
	"testing"

	"loop.example/purser/impl"
)

func TestStoreAddByHand(t *testing.T) {
	v := told(readAll(t, "a1", "a2 1:1", "b1", "c3 0:1 a1"))
	s := checkAdd(t, v, nil, "a2 1:1", true)
	s = checkAdd(t, v, s, "c3 0:1 a1", true)
	s = checkAdd(t, v, s, "a1", true)
	s = checkAdd(t, v, s, "b1", true)
	if !samePkgs(s, readAll(t, "a1", "a2 1:1", "b1", "c3 0:1 a1")) {
		t.Errorf("kept is %v", s)
	}
	for _, text := range []string{"a1", "a2 1:1", "b1", "c3 0:1 a1", "a2", "a2 1:2", "b2", "c3", "d1", "", "b1 ", "b", "b1\n", "e1"} {
		checkAdd(t, v, s, text, false)
	}
}

// A package goes ahead of all, between any two, and behind all.
func TestStoreAddAtEachPlace(t *testing.T) {
	for _, second := range []uint{0, 0xfffff, 0x33333} {
		all := mixed(0xfffff, second)
		for i, p := range all {
			rest := slices.Delete(slices.Clone(all), i, i+1)
			for _, s := range [][]impl.Pkg{rest, rest[:i], rest[i:], nil} {
				got := checkAdd(t, told([]impl.Pkg{p}), s, wantText(p), true)
				checkStoreOk(t, got, true)
				if len(got) != len(s)+1 {
					t.Errorf("%v, and %q: %v", s, wantText(p), got)
				}
			}
		}
	}
}

// P37
func TestStoreAddOfAllThatIsSmall(t *testing.T) {
	for _, c := range smallCases(t) {
		for _, text := range smallTexts() {
			p, _ := impl.PkgRead(text)
			want := tellsOf(c.trust, text) && !slices.ContainsFunc(c.store, atPlace(p.Name, p.Ver))
			checkAdd(t, c.trust, c.store, text, want)
		}
	}
}

// P37
func TestStoreAddJustOfWhatIsToldAndNotKept(t *testing.T) {
	added := 0
	for _, c := range someStoreCases() {
		for _, text := range twinTexts() {
			_, want := wantAdd(c.trust, c.store, text)
			got := checkAdd(t, c.trust, c.store, text, want)
			checkStoreOk(t, got, true)
			if !want {
				continue
			}
			added++
			if !slices.ContainsFunc(got, func(p impl.Pkg) bool { return wantText(p) == text }) {
				t.Errorf("%q is not among %v", text, got)
			}
			for _, p := range c.store {
				if !slices.ContainsFunc(got, func(q impl.Pkg) bool { return samePkg(p, q) }) {
					t.Errorf("with %q %v is gone from %v", text, p, got)
				}
			}
			checkAdd(t, c.trust, got, text, false)
		}
	}
	if added == 0 {
		t.Error("nothing was added")
	}
}

// P37: a text is not taken if another one of its name and version is kept, even if the index tells of it alone.
func TestStoreAddDrivesNothingOut(t *testing.T) {
	both := twins()
	for i := range both[0] {
		for kind := range 2 {
			kept, other := both[kind][i], both[1-kind][i]
			checkAdd(t, told([]impl.Pkg{other}), []impl.Pkg{kept}, wantText(other), false)
			checkAdd(t, told([]impl.Pkg{other}), mixed(0xfffff, uint(kind)*0xfffff), wantText(other), false)
			checkAdd(t, told([]impl.Pkg{kept}), []impl.Pkg{kept}, wantText(other), false)
			checkAdd(t, told([]impl.Pkg{kept}), nil, wantText(other), false)
			checkAdd(t, told([]impl.Pkg{other}), nil, wantText(other), true)
		}
	}
}

// P37: of two texts of one name, version and sum the index tells alike, but just the first that is brought is kept, as itself.
func TestStoreAddOfTwoOfOneSum(t *testing.T) {
	first, same := map[int]impl.Pkg{}, 0
	eachPkg([]int{1}, []int{0, 3, 9}, func(p impl.Pkg) {
		q, found := first[wantSum(wantText(p))]
		if p.Name != 1 || !found {
			if p.Name == 1 {
				first[wantSum(wantText(p))] = p
			}
			return
		}
		same++
		v := told([]impl.Pkg{p})
		checkAdd(t, v, checkAdd(t, v, nil, wantText(p), true), wantText(q), false)
		checkAdd(t, v, checkAdd(t, v, nil, wantText(q), true), wantText(p), false)
		checkTrim(t, v, []impl.Pkg{q}, []impl.Pkg{q})
		checkLacks(t, v, []impl.Pkg{q}, nil)
	})
	if same == 0 {
		t.Error("no two packages of one sum")
	}
}

// P38: any two behind one another, whatever else is kept.
func TestStoreAddOfTwoInAnyOrder(t *testing.T) {
	for _, c := range append(someStoreCases(), smallCases(t)...) {
		texts := append(smallTexts(), twinTexts()...)
		texts = slices.DeleteFunc(texts, func(text string) bool { return !tellsOf(c.trust, text) })
		for _, a := range texts {
			for _, b := range texts {
				ab, _ := impl.StoreAdd(c.trust, c.store, a)
				ab, _ = impl.StoreAdd(c.trust, ab, b)
				ba, _ := impl.StoreAdd(c.trust, c.store, b)
				ba, _ = impl.StoreAdd(c.trust, ba, a)
				if !samePkgs(ab, ba) {
					t.Errorf("of %v with %q and %q: %v or %v", c, a, b, ab, ba)
				}
			}
		}
	}
}

// P38: one that is kept already is taken out, and brought behind another one.
func TestStoreAddOfOneBehindAnother(t *testing.T) {
	for _, c := range someStoreCases() {
		for i, p := range c.store {
			if !tellsOf(c.trust, wantText(p)) {
				continue
			}
			rest := slices.Delete(slices.Clone(c.store), i, i+1)
			for _, m := range c.trust.Index.Metas {
				for _, list := range twins() {
					text := wantText(list[5*m.Name+m.Ver-6])
					_, first := wantAdd(c.trust, c.store, text)
					ahead := checkAdd(t, c.trust, c.store, text, first)
					if m.Name == p.Name && m.Ver == p.Ver {
						continue
					}
					behind := checkAdd(t, c.trust, checkAdd(t, c.trust, rest, text, first), wantText(p), true)
					if !samePkgs(ahead, behind) {
						t.Errorf("%v and %q: %v or %v", c, text, ahead, behind)
					}
				}
			}
		}
	}
}

// P38: many, in many orders.
func TestStoreAddOfManyInAnyOrder(t *testing.T) {
	r := rand.New(rand.NewSource(38))
	for n, mask := range randomPicks(r, 6) {
		list := mixed(mask, uint(n)*0x2f1b7)
		for _, s := range [][]impl.Pkg{nil, mixed(^mask, 0), mixed(^mask, 0xfffff)} {
			want := inOrder(append(slices.Clone(s), list...))
			for range 5 {
				got := s
				for _, i := range r.Perm(len(list)) {
					got = checkAdd(t, told(list), got, wantText(list[i]), true)
				}
				if !samePkgs(got, want) {
					t.Errorf("%v brought to %v is %v", list, s, got)
				}
			}
		}
	}
}

// P42
func TestStoreAddWithoutAnIndex(t *testing.T) {
	for _, c := range append(someStoreCases(), smallCases(t)...) {
		for _, text := range append(smallTexts(), twinTexts()...) {
			got := checkAdd(t, noIndex(), c.store, text, false)
			if !samePkgs(got, c.store) {
				t.Errorf("without an index %v with %q is %v", c.store, text, got)
			}
		}
	}
}

// P42: an index tells of one package alone; whether that is brought or another one, all that was kept stays.
func TestStoreAddWithAnIndexOfAnotherPackage(t *testing.T) {
	both := twins()
	for n, c := range someStoreCases() {
		i, kind := n%20, n/20%2
		p := both[kind][i]
		v := told([]impl.Pkg{p})
		for _, text := range twinTexts() {
			want := text == wantText(p) && !slices.ContainsFunc(c.store, atPlace(p.Name, p.Ver))
			got := checkAdd(t, v, c.store, text, want)
			if want {
				at := slices.IndexFunc(got, atPlace(p.Name, p.Ver))
				got = slices.Delete(slices.Clone(got), at, at+1)
			}
			if !samePkgs(got, c.store) {
				t.Errorf("%v with %q, an index of %v: %v", c.store, text, p, got)
			}
		}
	}
}

// Neither until when an index counts nor its number is asked here.
func TestStoreAddOfAnyIndexThatIsOk(t *testing.T) {
	list := readAll(t, "a1", "b2 0:1")
	for _, num := range []int{1, 2, 30} {
		for _, until := range []int{0, 1, 60} {
			v := trusting(twoOfThree(9), wantIndex(num, until, list))
			checkAdd(t, v, list[:1], "b2 0:1", true)
			checkTrim(t, v, list, list)
			checkLacks(t, v, list[1:], v.Index.Metas[:1])
		}
	}
}

func TestStoreOfTrustThatIsNotOk(t *testing.T) {
	for _, v := range oddTrusts() {
		for _, s := range [][]impl.Pkg{nil, readAll(t, "a1"), mixed(0xfffff, 0)} {
			for _, text := range []string{"", "a1", "a2", "b1"} {
				if got, ok := impl.StoreAdd(v, s, text); ok || len(got) != 0 {
					t.Errorf("StoreAdd(%v, %v, %q) = %v, %v; want nothing and false", v, s, text, got, ok)
				}
			}
			checkTrim(t, v, s, nil)
			checkLacks(t, v, s, nil)
		}
	}
	list := readAll(t, "a1", "b1 0:1")
	for _, v := range []impl.Trust{
		{Has: true, Index: wantIndex(3, 9, list)}, {Root: twoOfThree(1), Index: wantIndex(3, 9, list)}, trusting(twoOfThree(10), wantIndex(3, 9, list)),
		trusting(twoOfThree(1), wantIndex(0, 9, list)), trusting(twoOfThree(1), wantIndex(3, 61, list)), trusting(twoOfThree(1), wantIndex(3, 9, slices.Repeat(list, 2))),
	} {
		checkAdd(t, v, list[:1], "b1 0:1", false)
		checkTrim(t, v, list, nil)
		checkLacks(t, v, list[:1], nil)
	}
}

func TestStoreOfPackagesThatAreNotOk(t *testing.T) {
	for _, s := range oddStores(t) {
		for _, v := range []impl.Trust{noIndex(), told(nil), told(readAll(t, "a1", "b2", "b4", "c1"))} {
			for _, text := range []string{"", "a1", "b4", "c1", "d1"} {
				if got, ok := impl.StoreAdd(v, s, text); ok || len(got) != 0 {
					t.Errorf("StoreAdd(%v, %v, %q) = %v, %v; want nothing and false", v, s, text, got, ok)
				}
			}
			checkTrim(t, v, s, nil)
			checkLacks(t, v, s, nil)
		}
		for _, name := range []int{-1, 0, 1, 2, 3, 4, 5} {
			checkNewest(t, s, name, impl.Pkg{}, false)
		}
	}
}
