package tests

import (
	"slices"
	"testing"

	"loop.example/purser/impl"
)

// nums are the numbers of what is trusted, 0 of what there is not.
func nums(w impl.World) (int, int) {
	return w.Trust.Root.Num, w.Trust.Index.Num
}

// isNoElder says whether no number of what is trusted is less than it was, and of each name that was to be in one is, no elder.
func isNoElder(was, is impl.World) bool {
	wasRoot, wasIndex := nums(was)
	root, index := nums(is)
	names := newerOf(nil, toBe(is))
	return wasRoot <= root && wasIndex <= index && !slices.ContainsFunc(toBe(was), func(p impl.Pkg) bool { return names[p.Name].Ver < p.Ver })
}

// isNoLess says whether nothing that was published is gone.
func isNoLess(was, is impl.World) bool {
	return len(was.Roots) <= len(is.Roots) && slices.EqualFunc(was.Roots, is.Roots[:len(was.Roots)], sameSigRoot) &&
		len(was.Indexes) <= len(is.Indexes) && slices.EqualFunc(was.Indexes, is.Indexes[:len(was.Indexes)], sameSigIndex) && isAmong(was.Pkgs, is.Pkgs)
}

// P75, P77, P78: of each event of each play.
func TestPlaysByEvents(t *testing.T) {
	for _, p := range plays(t) {
		w := checkNew(t, p.root, p.bad, true)
		for _, e := range p.events {
			got := checkHappen(t, w, e)
			checkWorldOk(t, got, true)
			if !isNoLess(w, got) || !isNoElder(w, got) || !isFetched(got) || got.Now < w.Now {
				t.Errorf("WorldDo(%v, %v) = %v", w, e, got)
			}
			w = got
		}
	}
}

// P75: of worlds that no play comes to, too.
func TestEventsInHandWorlds(t *testing.T) {
	for i, w := range fullWorlds(t) {
		events := append(published(w), publish(mustRead(t, "c2 4:4")), index(), publishRoot(1, 1+i%2), impl.Event{Kind: evTick}, putIn(1+i%4), fallIn(1+i%4, fall{i % 5, true}), mendAll())
		for place := range w.Pkgs {
			events = append(events, bringPkg(place), bringSpoilt(place, 2+i%6, 1+i%255))
		}
		for _, e := range events {
			got := checkHappen(t, w, e)
			checkWorldOk(t, got, true)
			root, x := nums(w)
			if gotRoot, gotX := nums(got); !isNoLess(w, got) || gotRoot < root || gotX < x {
				t.Errorf("WorldDo(%v, %v) = %v", w, e, got)
			}
		}
	}
}

// P76
func TestPlayIsEachEvent(t *testing.T) {
	for _, p := range plays(t) {
		w, _ := impl.WorldNew(p.root, p.bad)
		for i, e := range p.events {
			if i%10 == 0 {
				if got := checkPlay(t, p.root, p.bad, p.events[:i], true); !sameWorld(got, w) {
					t.Errorf("WorldPlay of %v is %v, want %v", p.events[:i], got, w)
				}
			}
			w = impl.WorldDo(w, e)
		}
		if got := checkPlay(t, p.root, p.bad, p.events, true); !sameWorld(got, w) {
			t.Errorf("WorldPlay of %v is %v, want %v", p.events, got, w)
		}
	}
}

// P77: what is trusted, kept, in, or to be in was published; P95: so no number is greater than there are.
func TestPlayTrustsJustWhatWasPublished(t *testing.T) {
	for _, p := range plays(t) {
		w := checkPlay(t, p.root, p.bad, p.events, true)
		if !isFetched(w) || w.Trust.Root.Num > len(w.Roots) || w.Trust.Index.Num > len(w.Indexes) {
			t.Errorf("behind %v there is fetched what was not published: %v", p.events, w)
		}
	}
}

// P77: bad keys, as many as there may be, sign all that they can, at each step of a play.
func TestPlayInSpiteOfForgery(t *testing.T) {
	for i, p := range randomPlays(60) {
		events := []impl.Event{}
		for j, w := range p.worlds()[:len(p.events)] {
			if by := justBad(w); j%3 == 0 {
				all := forged(w)
				events = append(events, signedBy(all[(i+j)%len(all)], by[(i+j)%len(by)]))
			}
			events = append(events, p.events[j])
		}
		got := checkPlay(t, p.root, p.bad, events[:min(len(events), playTop)], true)
		if !isFetched(got) {
			t.Errorf("behind %v there is fetched what was not published: %v", events, got)
		}
	}
}

// P78: behind any number of events more.
func TestPlayNeverBack(t *testing.T) {
	for _, p := range plays(t) {
		all := []impl.World{}
		for i := 0; i <= len(p.events); i += 7 {
			all = append(all, checkPlay(t, p.root, p.bad, p.events[:i], true))
		}
		for i, was := range all {
			for _, is := range all[i:] {
				if !isNoElder(was, is) || !isNoLess(was, is) {
					t.Errorf("%v is elder than %v", is, was)
				}
			}
		}
	}
}

func TestPlayAsManyEventsAsThereMayBe(t *testing.T) {
	r, bad := twoOfThree(1), []int{3}
	for _, e := range []impl.Event{{}, index(), {Kind: evTick}, mendAll(), publish(mustRead(t, "a1"))} {
		for _, n := range []int{0, 1, 2, 59, 60} {
			checkPlay(t, r, bad, often(n, e), true)
		}
		for _, n := range []int{61, 62, 120, 1000} {
			if got := checkPlay(t, r, bad, often(n, e), false); !sameWorld(got, impl.World{}) {
				t.Errorf("WorldPlay of %d events is %v, not nothing", n, got)
			}
		}
	}
	if w := checkPlay(t, r, bad, append(tick(59), index()), true); w.Now != 59 || len(w.Indexes) != 1 {
		t.Errorf("behind 59 ticks and an index there is %v", w)
	}
}

func TestPlayNot(t *testing.T) {
	events := []impl.Event{index(), {Kind: evTick}}
	for _, r := range append(oddRoots(), twoOfThree(2), twoOfThree(9)) {
		checkPlay(t, r, []int{3}, events, false)
		checkPlay(t, r, nil, nil, false)
	}
	for _, bad := range append(oddKeys(), []int{1, 2}, []int{2, 3}, []int{1, 2, 3}) {
		checkPlay(t, twoOfThree(1), bad, events, false)
		checkPlay(t, twoOfThree(1), bad, nil, false)
	}
}

// leftOut are the events of other kinds than those.
func leftOut(events []impl.Event, kinds ...int) []impl.Event {
	return slices.DeleteFunc(slices.Clone(events), func(e impl.Event) bool { return slices.Contains(kinds, e.Kind) })
}

// P91
func TestPlayWithoutBringingOrPublishing(t *testing.T) {
	for _, p := range plays(t) {
		w := checkPlay(t, p.root, p.bad, leftOut(p.events, evBringRoot, evBringIndex, evBringPkg), true)
		if !sameFetched(w, unfetched(w)) {
			t.Errorf("without bringing there is %v", w)
		}
		w = checkPlay(t, p.root, p.bad, leftOut(p.events, evPub, evIndex, evRoot), true)
		if !sameFetched(w, unfetched(w)) || len(w.Roots) != 1 || len(w.Indexes)+len(w.Pkgs) > 0 {
			t.Errorf("without publishing there is %v", w)
		}
		for _, kind := range []int{evPub, evIndex, evBringIndex, evBringPkg} {
			if w := checkPlay(t, p.root, p.bad, leftOut(p.events, kind), true); len(w.Store)+len(w.Disk.Db)+len(w.Disk.Jour) > 0 {
				t.Errorf("without events of the kind %d there is %v", kind, w)
			}
		}
	}
}

// P92
func TestPlayKeepsJustWhatTheIndexTells(t *testing.T) {
	for _, p := range plays(t) {
		w := checkPlay(t, p.root, p.bad, p.events, true)
		for _, q := range w.Store {
			if got, ok := impl.IndexHas(w.Trust.Index, impl.PkgText(q)); !ok || !samePkg(got, q) {
				t.Errorf("of %v that is kept %v does not tell", q, w.Trust.Index)
			}
		}
		if got := impl.StoreTrim(w.Trust, w.Store); !samePkgs(got, w.Store) {
			t.Errorf("StoreTrim(%v, %v) = %v", w.Trust, w.Store, got)
		}
	}
}

// P93
func TestPlayInSpiteOfBadKeys(t *testing.T) {
	for _, p := range plays(t) {
		w := checkPlay(t, p.root, p.bad, p.events, true)
		for i, s := range w.Roots {
			if impl.RootSigned(s.Root, w.Bad) || i > 0 && !impl.RootNext(w.Roots[i-1].Root, s) {
				t.Errorf("in spite of %v there are %v", w.Bad, w.Roots)
			}
		}
		if impl.RootSigned(w.Trust.Root, w.Bad) || !slices.Equal(w.Bad, p.bad) {
			t.Errorf("in spite of %v %v is trusted", w.Bad, w.Trust)
		}
	}
}

// What is not of its kind does not count in an event.
func TestEventsHaveWhatTheyNeedAlone(t *testing.T) {
	w := grownWorld(t)
	w = checkHappenAll(t, w, bringIndex(w.Indexes[1]), bringPkg(0), bringPkg(1), fallIn(1, fall{2, true}))
	noise := impl.Event{A: 3, B: 4, C: 5, Torn: true, Pkg: mustRead(t, "d5 0:1"), Root: w.Roots[1], Index: w.Indexes[2]}
	for kind, own := range map[int]impl.Event{
		evPub: publish(mustRead(t, "d4")), evIndex: index(), evRoot: publishRoot(1, 4), evTick: {Kind: evTick}, evBringRoot: bringRoot(w.Roots[1]),
		evBringIndex: bringIndex(w.Indexes[1]), evBringPkg: bringSpoilt(2, 3, 256), evMend: fallMending(fall{1, true}),
	} {
		e := noise
		e.Kind = kind
		switch kind {
		case evPub:
			e.Pkg = own.Pkg
		case evRoot, evBringRoot:
			e.Root = own.Root
		case evBringIndex:
			e.Index = own.Index
		case evBringPkg:
			e.A, e.B, e.C = own.A, own.B, own.C
		case evMend:
			e.B, e.Torn = own.B, own.Torn
		}
		if got, want := checkHappen(t, w, e), checkHappen(t, w, own); !sameWorld(got, want) {
			t.Errorf("%v is not %v: %v, want %v", e, own, got, want)
		}
	}
}
