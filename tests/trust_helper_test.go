package tests

import (
	"slices"
	"testing"

	"loop.example/purser/impl"
)

// isIndex says, without the program, whether an index is ok.
func isIndex(x impl.Index) bool {
	last := 0
	for _, m := range x.Metas {
		if m.Name < 1 || m.Name > 4 || m.Ver < 1 || m.Ver > 5 || m.Sum < 0 || m.Sum > 9972 || 10*m.Name+m.Ver <= last {
			return false
		}
		last = 10*m.Name + m.Ver
	}
	return 1 <= x.Num && x.Num <= 30 && 0 <= x.Until && x.Until <= 60 && len(x.Metas) <= 8
}

// isTrust says, without the program, whether trust is ok.
func isTrust(v impl.Trust) bool {
	if v.Has {
		return isRoot(v.Root) && isIndex(v.Index)
	}
	return isRoot(v.Root) && sameIndex(v.Index, impl.Index{})
}

// wantTrustRoot is, without the program, what TrustRoot answers.
func wantTrustRoot(v impl.Trust, s impl.SigRoot) (impl.Trust, bool) {
	switch {
	case !isTrust(v):
		return impl.Trust{}, false
	case !wantNext(v.Root, s):
		return v, false
	}
	return impl.Trust{Root: s.Root, Has: v.Has, Index: v.Index}, true
}

// wantTrustIndex is, without the program, what TrustIndex answers.
func wantTrustIndex(v impl.Trust, s impl.SigIndex, now int) (impl.Trust, bool) {
	switch {
	case !isTrust(v) || now < 0 || now > 60:
		return impl.Trust{}, false
	case !isIndex(s.Index) || !wantSigned(v.Root, s.By) || s.Index.Until < now:
		return v, false
	case v.Has && s.Index.Num <= v.Index.Num:
		return v, false
	}
	return impl.Trust{Root: v.Root, Has: true, Index: s.Index}, true
}

func sameRoot(a, b impl.Root) bool {
	return a.Num == b.Num && a.Need == b.Need && slices.Equal(a.Keys, b.Keys)
}

func sameTrust(a, b impl.Trust) bool {
	return sameRoot(a.Root, b.Root) && a.Has == b.Has && sameIndex(a.Index, b.Index)
}

func cloneRoot(r impl.Root) impl.Root {
	r.Keys = slices.Clone(r.Keys)
	return r
}

func cloneTrust(v impl.Trust) impl.Trust {
	return impl.Trust{Root: cloneRoot(v.Root), Has: v.Has, Index: cloneIndex(v.Index)}
}

// trusting is trust in a root, and in an index.
func trusting(r impl.Root, x impl.Index) impl.Trust {
	return impl.Trust{Root: r, Has: true, Index: x}
}

// twoOfThree is a root of the keys 1, 2 and 3, two of which it needs.
func twoOfThree(num int) impl.Root {
	return impl.Root{Num: num, Keys: []int{1, 2, 3}, Need: 2}
}

// plainIndex is an index that tells of two packages.
func plainIndex(num, until int) impl.Index {
	return impl.Index{Num: num, Until: until, Metas: []impl.Meta{{Name: 1, Ver: 2, Sum: 30}, {Name: 3, Ver: 1, Sum: 9972}}}
}

// edgeNumbers are all numbers around bounds from 0 to 60, and far ones.
func edgeNumbers() []int {
	out := slices.Clone(farNumbers)
	for n := -3; n <= 64; n++ {
		out = append(out, n)
	}
	return out
}

// someTrusts are ok: roots of few and many keys, each without an index, and with one of each kind.
func someTrusts() []impl.Trust {
	out, indexes := []impl.Trust{}, someIndexes()
	for i, r := range okRoots() {
		if i%37 == 0 || r.Num == 8 {
			out = append(out, impl.Trust{Root: r}, trusting(r, impl.Index{Num: 1}), trusting(r, indexes[i%len(indexes)]))
		}
	}
	for _, x := range indexes {
		out = append(out, trusting(twoOfThree(1), x))
	}
	return out
}

// oddTrusts are not ok: the root is not, the index is not, or there is some of one that there is not.
func oddTrusts() []impl.Trust {
	out := []impl.Trust{}
	for _, r := range oddRoots() {
		out = append(out, impl.Trust{Root: r}, trusting(r, plainIndex(2, 20)))
	}
	for _, x := range oddIndexes() {
		out = append(out, trusting(twoOfThree(1), x))
	}
	unsaid := append(someIndexes(), oddIndexes()[1:]...)
	for _, n := range append([]int{-1, 1}, farNumbers...) {
		unsaid = append(unsaid, impl.Index{Num: n}, impl.Index{Until: n})
	}
	unsaid = append(unsaid, impl.Index{Metas: make([]impl.Meta, 1)}, impl.Index{Metas: plainIndex(1, 1).Metas})
	for _, x := range unsaid {
		out = append(out, impl.Trust{Root: twoOfThree(1), Index: x})
	}
	return out
}

func mustTrust(t *testing.T, r impl.Root) impl.Trust {
	t.Helper()
	v, ok := impl.TrustNew(r)
	if !ok {
		t.Fatalf("TrustNew(%v) is false", r)
	}
	return v
}

func checkTrustOk(t *testing.T, v impl.Trust, want bool) {
	t.Helper()
	if got := impl.TrustOk(v); got != want {
		t.Errorf("TrustOk(%v) = %v, want %v", v, got, want)
	}
}

func checkFresh(t *testing.T, v impl.Trust, now int, want bool) {
	t.Helper()
	if got := impl.TrustFresh(v, now); got != want {
		t.Errorf("TrustFresh(%v, %d) = %v, want %v", v, now, got, want)
	}
}

// checkTrustRoot asks whether a root is taken, and that all else is as the document says, and tells what is trusted then.
func checkTrustRoot(t *testing.T, v impl.Trust, s impl.SigRoot, want bool) impl.Trust {
	t.Helper()
	got, ok := impl.TrustRoot(v, s)
	if after, _ := wantTrustRoot(v, s); ok != want || !sameTrust(got, after) {
		t.Errorf("TrustRoot(%v, %v) = %v, %v; want %v, %v", v, s, got, ok, after, want)
	}
	return got
}

// checkTrustIndex asks whether an index is taken, and that all else is as the document says, and tells what is trusted then.
func checkTrustIndex(t *testing.T, v impl.Trust, s impl.SigIndex, now int, want bool) impl.Trust {
	t.Helper()
	got, ok := impl.TrustIndex(v, s, now)
	if after, _ := wantTrustIndex(v, s, now); ok != want || !sameTrust(got, after) {
		t.Errorf("TrustIndex(%v, %v, %d) = %v, %v; want %v, %v", v, s, now, got, ok, after, want)
	}
	return got
}
