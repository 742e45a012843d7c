package tests

import (
	"slices"
	"testing"

	"loop.example/purser/impl"
)

func TestStoreNewestByHand(t *testing.T) {
	s := readAll(t, "a1", "a2 0:1", "a5 1:1 c1", "c3", "d1", "d2 0:9")
	checkNewest(t, s, 1, mustRead(t, "a5 1:1 c1"), true)
	checkNewest(t, s, 2, impl.Pkg{}, false)
	checkNewest(t, s, 3, mustRead(t, "c3"), true)
	checkNewest(t, s, 4, mustRead(t, "d2 0:9"), true)
	for _, name := range append([]int{-1, 0, 5, 6}, farNumbers...) {
		checkNewest(t, s, name, impl.Pkg{}, false)
		checkNewest(t, nil, name, impl.Pkg{}, false)
	}
	for name := 1; name <= 4; name++ {
		checkNewest(t, nil, name, impl.Pkg{}, false)
		checkNewest(t, []impl.Pkg{}, name, impl.Pkg{}, false)
	}
}

// P40
func TestStoreNewestHasNoneAbove(t *testing.T) {
	for _, c := range append(someStoreCases(), smallCases(t)...) {
		for name := -1; name <= 6; name++ {
			want, any := wantNewest(c.store, name)
			checkNewest(t, c.store, name, want, any)
			got, ok := impl.StoreNewest(c.store, name)
			if ok != slices.ContainsFunc(c.store, func(p impl.Pkg) bool { return p.Name == name }) {
				t.Errorf("StoreNewest(%v, %d) is %v", c.store, name, ok)
			}
			for _, p := range c.store {
				if p.Name == name && p.Ver > got.Ver {
					t.Errorf("StoreNewest(%v, %d) = %v, but %v is newer", c.store, name, got, p)
				}
			}
		}
	}
}

// P40: all choices of versions of one name, beside others of other names.
func TestStoreNewestOfAllVersions(t *testing.T) {
	for name := 1; name <= 4; name++ {
		shift := 5 * (name - 1)
		for versions := range uint(32) {
			for _, others := range []uint{0, 0xfffff, 0x94a52, 0x21084} {
				s := mixed(others&^(31<<shift)|versions<<shift, 0x66666)
				want, any := wantNewest(s, name)
				if any != (versions != 0) {
					t.Fatalf("%v of the name %d: %v", s, name, any)
				}
				checkNewest(t, s, name, want, any)
			}
		}
	}
}

// P45
func TestStoreNewestWithoutTheNewest(t *testing.T) {
	for _, c := range append(someStoreCases(), smallCases(t)...) {
		for name := 1; name <= 4; name++ {
			s, last := c.store, 6
			for p, ok := impl.StoreNewest(s, name); ok; p, ok = impl.StoreNewest(s, name) {
				at := slices.IndexFunc(s, func(q impl.Pkg) bool { return samePkg(p, q) })
				if at < 0 || p.Name != name || p.Ver >= last {
					t.Fatalf("StoreNewest(%v, %d) = %v, behind the version %d", s, name, p, last)
				}
				s, last = slices.Delete(slices.Clone(s), at, at+1), p.Ver
			}
			if slices.ContainsFunc(s, func(p impl.Pkg) bool { return p.Name == name }) {
				t.Errorf("StoreNewest(%v, %d) is false", s, name)
			}
		}
	}
}

// What comes later is the newest, whether it is brought ahead of elder ones or behind them.
func TestStoreNewestOfWhatWasAdded(t *testing.T) {
	list := readAll(t, "b1", "b2 0:1", "b4 0:2", "b5")
	v := told(list)
	for _, order := range [][]int{{0, 1, 2, 3}, {3, 2, 1, 0}, {2, 3, 0, 1}, {1, 0, 3, 2}} {
		var s []impl.Pkg
		last := 0
		for _, i := range order {
			s = checkAdd(t, v, s, wantText(list[i]), true)
			last = max(last, i)
			checkNewest(t, s, 2, list[last], true)
			checkNewest(t, s, 1, impl.Pkg{}, false)
		}
	}
}
