package tests

import (
	"slices"
	"sync"
	"testing"

	"loop.example/purser/impl"
)

// trustCall is one choice of arguments for the functions of the chapter.
type trustCall struct {
	trust impl.Trust
	root  impl.SigRoot
	index impl.SigIndex
	now   int
}

// trustAnswer is what all functions of the chapter that tell trust answer.
type trustAnswer struct {
	newOne, byRoot, byIndex impl.Trust
	isNew, isRoot, isIndex  bool
	ok, fresh               bool
}

func (c trustCall) ask() trustAnswer {
	a := trustAnswer{ok: impl.TrustOk(c.trust), fresh: impl.TrustFresh(c.trust, c.now)}
	a.newOne, a.isNew = impl.TrustNew(c.trust.Root)
	a.byRoot, a.isRoot = impl.TrustRoot(c.trust, c.root)
	a.byIndex, a.isIndex = impl.TrustIndex(c.trust, c.index, c.now)
	return a
}

// want is, without the program, what ask answers.
func (c trustCall) want() trustAnswer {
	a := trustAnswer{ok: isTrust(c.trust), isNew: isRoot(c.trust.Root)}
	a.fresh = a.ok && c.trust.Has && 0 <= c.now && c.now <= c.trust.Index.Until
	if a.isNew {
		a.newOne.Root = c.trust.Root
	}
	a.byRoot, a.isRoot = wantTrustRoot(c.trust, c.root)
	a.byIndex, a.isIndex = wantTrustIndex(c.trust, c.index, c.now)
	return a
}

func (a trustAnswer) same(b trustAnswer) bool {
	return sameTrust(a.newOne, b.newOne) && sameTrust(a.byRoot, b.byRoot) && sameTrust(a.byIndex, b.byIndex) &&
		a.isNew == b.isNew && a.isRoot == b.isRoot && a.isIndex == b.isIndex && a.ok == b.ok && a.fresh == b.fresh
}

func (a trustAnswer) scribble() {
	for _, v := range []impl.Trust{a.newOne, a.byRoot, a.byIndex} {
		scribbleKeys(v.Root.Keys)
		scribbleMetas(v.Index.Metas)
	}
}

func scribbleKeys(keys []int) {
	for i := range keys[:cap(keys)] {
		keys[:cap(keys)][i] = 77
	}
}

func (c trustCall) clone() trustCall {
	return trustCall{
		trust: cloneTrust(c.trust),
		root:  impl.SigRoot{Root: cloneRoot(c.root.Root), By: slices.Clone(c.root.By)},
		index: impl.SigIndex{Index: cloneIndex(c.index.Index), By: slices.Clone(c.index.By)},
		now:   c.now,
	}
}

// trustRooms are looks at all room that the lists of a call have.
type trustRooms struct {
	keys  [][]int
	metas [][]impl.Meta
}

func (r trustRooms) clone() trustRooms {
	out := trustRooms{}
	for _, k := range r.keys {
		out.keys = append(out.keys, slices.Clone(k))
	}
	for _, m := range r.metas {
		out.metas = append(out.metas, slices.Clone(m))
	}
	return out
}

func (r trustRooms) same(b trustRooms) bool {
	return slices.EqualFunc(r.keys, b.keys, slices.Equal) && slices.EqualFunc(r.metas, b.metas, slices.Equal)
}

// roomyCall is the same call with marked room behind all of its lists.
func roomyCall(c trustCall) (trustCall, trustRooms) {
	rooms := trustRooms{keys: make([][]int, 4), metas: make([][]impl.Meta, 2)}
	c.trust.Root.Keys, rooms.keys[0] = roomyKeys(c.trust.Root.Keys)
	c.root.Root.Keys, rooms.keys[1] = roomyKeys(c.root.Root.Keys)
	c.root.By, rooms.keys[2] = roomyKeys(c.root.By)
	c.index.By, rooms.keys[3] = roomyKeys(c.index.By)
	c.trust.Index, rooms.metas[0] = roomyIndex(c.trust.Index)
	c.index.Index, rooms.metas[1] = roomyIndex(c.index.Index)
	return c, rooms
}

// trustCalls are calls of which some take what is brought, some do not, and some have arguments that are not ok.
func trustCalls() []trustCall {
	out := []trustCall{}
	indexes := someIndexes()
	for i, v := range append(someTrusts(), oddTrusts()...) {
		next := impl.Root{Num: v.Root.Num + 1, Keys: []int{2, 4, 5}, Need: 1 + i%3}
		x := indexes[(i*13)%len(indexes)]
		out = append(out,
			trustCall{v, impl.SigRoot{Root: next, By: []int{1, 2, 3, 4, 5, 6}}, impl.SigIndex{Index: x, By: v.Root.Keys}, x.Until},
			trustCall{v, impl.SigRoot{Root: next, By: next.Keys}, impl.SigIndex{Index: x, By: []int{}}, 0},
			trustCall{v, impl.SigRoot{}, impl.SigIndex{}, i%65 - 2})
	}
	roots, odd := oddRoots(), oddIndexes()
	for i := range max(len(roots), len(odd)) {
		r, x := roots[i%len(roots)], odd[i%len(odd)]
		out = append(out, trustCall{trusting(twoOfThree(1), plainIndex(2, 7)), impl.SigRoot{Root: r, By: r.Keys}, impl.SigIndex{Index: x, By: []int{1, 2}}, 5})
	}
	return out
}

func TestTrustCallsAreOfAllKinds(t *testing.T) {
	kinds := map[[5]bool]int{}
	for _, c := range trustCalls() {
		a := c.want()
		kinds[[5]bool{a.ok, c.trust.Has, a.isRoot, a.isIndex, a.fresh}]++
	}
	for _, kind := range [][5]bool{
		{true, false, true, true, false}, {true, false, false, false, false}, {true, true, true, true, true}, {true, true, true, true, false},
		{true, true, true, false, true}, {true, true, false, false, false}, {false, true, false, false, false}, {false, false, false, false, false},
	} {
		if kinds[kind] == 0 {
			t.Errorf("no call is of the kind %v: %v", kind, kinds)
		}
	}
}

func TestTrustWritesIntoNoArgument(t *testing.T) {
	for _, c := range trustCalls() {
		roomy, rooms := roomyCall(c)
		were := rooms.clone()
		if got := roomy.ask(); !got.same(c.want()) {
			t.Errorf("room behind %v is seen: %v", c, got)
		}
		if !rooms.same(were) {
			t.Errorf("an argument was changed: %v", c)
		}
	}
}

// What is written into an answer, and into its room, is in no argument, and in no other answer.
func TestTrustAnswersShareNoMemory(t *testing.T) {
	for _, c := range trustCalls() {
		roomy, rooms := roomyCall(c)
		were := rooms.clone()
		first, second := roomy.ask(), roomy.ask()
		first.scribble()
		if !rooms.same(were) || !second.same(c.want()) || !roomy.ask().same(c.want()) {
			t.Errorf("an answer of %v shares memory", c)
		}
	}
}

// What is written into an argument later is in no answer.
func TestTrustAnswersOutliveTheirArguments(t *testing.T) {
	for _, c := range trustCalls() {
		want := c.clone().want()
		given := c.clone()
		got := given.ask()
		for _, keys := range [][]int{given.trust.Root.Keys, given.root.Root.Keys, given.root.By, given.index.By} {
			scribbleKeys(keys)
		}
		scribbleMetas(given.trust.Index.Metas)
		scribbleMetas(given.index.Index.Metas)
		if !got.same(want) {
			t.Errorf("an answer of %v hangs on an argument: %v", c, got)
		}
	}
}

// Keys that stand in several arguments at once are not shared by what is answered.
func TestTrustTakesOneListTwice(t *testing.T) {
	for _, keys := range allKeys()[1:] {
		v := trusting(impl.Root{Num: 1, Keys: keys, Need: len(keys)}, plainIndex(1, 1))
		s := impl.SigRoot{Root: impl.Root{Num: 2, Keys: keys, Need: len(keys)}, By: keys}
		x := impl.SigIndex{Index: impl.Index{Num: 2, Until: 1, Metas: v.Index.Metas}, By: keys}
		a := checkTrustRoot(t, v, s, true)
		b := checkTrustIndex(t, v, x, 1, true)
		c := checkTrustIndex(t, a, x, 1, true)
		was := cloneTrust(c)
		scribbleKeys(a.Root.Keys)
		scribbleKeys(b.Root.Keys)
		scribbleMetas(a.Index.Metas)
		scribbleMetas(b.Index.Metas)
		if !sameTrust(c, was) || !slices.Equal(keys, was.Root.Keys) || !sameIndex(v.Index, plainIndex(1, 1)) {
			t.Errorf("answers of %v share memory", keys)
		}
	}
}

func TestTrustKeepsNothingBetweenCalls(t *testing.T) {
	calls := trustCalls()
	var group sync.WaitGroup
	for range 4 {
		group.Go(func() {
			for _, c := range calls {
				if got := c.ask(); !got.same(c.want()) {
					t.Errorf("%v answers %v", c, got)
				}
			}
		})
	}
	group.Wait()
}
