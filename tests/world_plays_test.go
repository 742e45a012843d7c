package tests

import (
	"fmt"
	"math/rand"
	"slices"
	"testing"

	"loop.example/purser/impl"
)

// play is with what a world begins, and what happens then.
type play struct {
	root   impl.Root
	bad    []int
	events []impl.Event
}

// startOf is a play in which nothing happens yet: two of three keys are needed, one of which is bad.
func startOf(events ...impl.Event) play {
	return play{root: twoOfThree(1), bad: []int{3}}.then(events...)
}

func (p play) then(events ...impl.Event) play {
	p.events = slices.Concat(p.events, events)
	return p
}

// brought is a play behind which all that was published is brought, without a new index.
func (p play) brought() play {
	return p.then(bringingAll(p.world())...)
}

// world is, without the program, the world behind all events, however many there are.
func (p play) world() impl.World {
	w, _ := wantNew(p.root, p.bad)
	return behindAll(w, p.events)
}

// worlds are, without the program, the worlds ahead of all events, and behind each.
func (p play) worlds() []impl.World {
	w, _ := wantNew(p.root, p.bad)
	out := []impl.World{w}
	for _, e := range p.events {
		w = worldBehind(w, e)
		out = append(out, w)
	}
	return out
}

// publishAll are the events that publish the packages of texts.
func publishAll(t *testing.T, texts ...string) []impl.Event {
	t.Helper()
	out := []impl.Event{}
	for _, p := range readAll(t, texts...) {
		out = append(out, publish(p))
	}
	return out
}

// index is EvIndex.
func index() impl.Event {
	return impl.Event{Kind: evIndex}
}

// handPlays are at the ends of bounds: of time, of indexes, of roots, of packages, and of events; falls are among them.
func handPlays(t *testing.T) []play {
	t.Helper()
	one := startOf(publishAll(t, "a1 0:1")...).then(index()).brought()
	late := startOf(tick(53)...).then(publishAll(t, "a1 0:1")...).then(index())
	roots := startOf()
	for i := range 9 {
		roots = roots.then(publishRoot(2, []int{1, 2, 4, 5}[i%4], 6), index())
	}
	roots = roots.brought()
	full := startOf(publishAll(t, "a1 0:1", "a2 0:2 b1", "b1 1:1 2:2", "b2 c1", "c1 3:3", "c2 3:4 4:5", "d1 5:9 a1", "d2 a1 b1")...).then(index()).brought()
	indexes := startOf(publishAll(t, "a1 0:1", "b1 1:1 a1")...).then(often(29, index())...).then(publishAll(t, "c1")...).then(index())
	return []play{
		startOf(), startOf(tick(60)...), one, one.then(tick(6)...), one.then(tick(7)...), one.then(putIn(1)),
		late.brought(), late.then(tick(1)...).brought(), late.brought().then(tick(2)...), roots, full,
		full.then(putIn(4), putIn(1), putIn(3)), full.then(putIn(4), fallIn(1, fall{1, false})), full.then(putIn(1)).then(publishAll(t, "a3")...),
		full.then(fallIn(4, fall{4, true})), full.then(putIn(1), fallIn(4, fall{5, true}), fallMending(fall{2, true})),
		full.then(fallIn(1, fall{0, true})), full.then(publishRoot(1, 1, 2), index()), full.then(publishRoot(1, 4, 5)).brought().then(index()).brought(),
		indexes, indexes.then(index(), index()), indexes.brought().then(putIn(2)), indexes.brought().then(tick(7)...), indexes.then(publishRoot(1, 1, 2)),
		{root: impl.Root{Num: 1, Keys: []int{6}, Need: 1}}, {root: impl.Root{Num: 1, Keys: []int{1, 2, 3, 4, 5, 6}, Need: 6}, bad: []int{1, 2, 3, 4, 5}},
		play{root: impl.Root{Num: 1, Keys: []int{1, 2}, Need: 2}, bad: []int{2, 4, 5, 6}}.then(publishAll(t, "d5 5:9")...).then(index(), publishRoot(2, 1, 2, 3), index()).brought(),
	}
}

// randomPlays are of random roots and bad keys, each of 60 events at most.
func randomPlays(n int) []play {
	r, out := rand.New(rand.NewSource(74)), []play{}
	for range n {
		p := play{}
		for _, ok := wantNew(p.root, p.bad); !ok; _, ok = wantNew(p.root, p.bad) {
			p.root = impl.Root{Num: 1, Keys: maskKeys(uint(r.Intn(64))), Need: 1 + r.Intn(4)}
			p.bad = maskKeys(uint(r.Intn(64) & r.Intn(64)))
		}
		shelf := smallShelf(r)
		for _, i := range r.Perm(len(shelf))[:r.Intn(8)] {
			p = p.then(publish(shelf[i]))
		}
		p = p.then(index())
		if r.Intn(4) > 0 {
			p = p.brought()
		}
		w := p.world()
		for size := 30 + r.Intn(31); len(p.events) < size; {
			for _, e := range randomEvents(r, w, shelf) {
				p.events, w = append(p.events, e), worldBehind(w, e)
			}
		}
		p.events = p.events[:min(len(p.events), playTop)]
		out = append(out, p)
	}
	return out
}

// smallShelf is few packages, most of which can be in together, with few files at places that are not their name's; some are of one name and version.
func smallShelf(r *rand.Rand) []impl.Pkg {
	homes, out := []int{1, 2, 3, 4, 1 + r.Intn(4), 1 + r.Intn(4)}, []impl.Pkg{}
	newest := [5]int{0, r.Intn(6), r.Intn(6), r.Intn(6), 1 + r.Intn(5)}
	for range 8 + r.Intn(4) {
		p := impl.Pkg{Name: 4}
		if name := 1 + r.Intn(4); newest[name] > 0 {
			p.Name = name
		}
		p.Ver = max(newest[p.Name]-r.Intn(3), 1)
		for path := range 6 {
			if len(p.Files) < 2 && (r.Intn(40) == 0 || homes[path] == p.Name && r.Intn(3) > 0) {
				p.Files = append(p.Files, impl.File{Path: path, Data: r.Intn(10)})
			}
		}
		for name := 1; name <= 4; name++ {
			if name != p.Name && len(p.Deps) < 2 && r.Intn(6) == 0 && newest[name] > 0 {
				p.Deps = append(p.Deps, impl.Dep{Name: name, Least: 1 + r.Intn(newest[name])})
			}
		}
		out = append(out, p)
	}
	return out
}

// randomEvents are mostly one, and at times a new index and all that is to be brought, a fall while one mends, or a longer time.
func randomEvents(r *rand.Rand, w impl.World, shelf []impl.Pkg) []impl.Event {
	switch n := r.Intn(40); {
	case n < 2:
		return bringingAll(w)
	case n < 4 || n < 10 && len(w.Pkgs) > 3 && len(w.Store) == 0:
		w = worldBehind(w, index())
		return append([]impl.Event{index()}, bringingAll(w)...)
	case n < 12 && w.Disk.Has:
		return []impl.Event{fallMending(fall{r.Intn(6), true}), mendAll()}
	case n == 39:
		return tick(1 + r.Intn(8))
	}
	return []impl.Event{randomEvent(r, w, shelf)}
}

// randomEvent is one that can be in a world, as often as not.
func randomEvent(r *rand.Rand, w impl.World, shelf []impl.Pkg) impl.Event {
	switch n := r.Intn(100); {
	case n < 13:
		return publish(shelf[r.Intn(len(shelf))])
	case n < 20:
		return index()
	case n < 25:
		return publishRoot(1+r.Intn(3), maskKeys(uint(r.Intn(64)))...)
	case n < 31:
		return impl.Event{Kind: evTick}
	case n < 38:
		return bringRoot(randomRoot(r, w))
	case n < 48:
		return bringIndex(randomIndex(r, w))
	case n < 64:
		return randomBringPkg(r, w)
	case n < 87:
		return randomPutIn(r, w)
	case n < 99:
		return impl.Event{Kind: evMend, B: r.Intn(12) - 1, Torn: r.Intn(2) == 0}
	}
	return impl.Event{Kind: 10 * r.Intn(2), A: 1, B: 1, Pkg: shelf[0]}
}

// randomPutIn is mostly of a name of which one is kept, and falls more often than not.
func randomPutIn(r *rand.Rand, w impl.World) impl.Event {
	e := impl.Event{Kind: evInst, A: r.Intn(6), B: r.Intn(12) - 1, Torn: r.Intn(2) == 0}
	if len(w.Store) > 0 && r.Intn(4) > 0 {
		e.A = w.Store[r.Intn(len(w.Store))].Name
	}
	return e
}

// randomBringPkg is mostly as it is, of the others some with a byte of the name or version, some with one of another place, or of none.
func randomBringPkg(r *rand.Rand, w impl.World) impl.Event {
	e := bringPkg(r.Intn(len(w.Pkgs)+2) - 1)
	if r.Intn(3) == 0 {
		e.B, e.C = r.Intn(18)-1, []int{0, 1, 2, 255, 256, -1, -256, r.Intn(1000)}[r.Intn(8)]
	}
	return e
}

// randomRoot was published, or is one that was, changed, or signed by others, or one of the bad keys alone.
func randomRoot(r *rand.Rand, w impl.World) impl.SigRoot {
	s := cloneSigRoot(w.Roots[r.Intn(len(w.Roots))])
	if next := w.Trust.Root.Num; next < len(w.Roots) && r.Intn(3) > 0 {
		s = cloneSigRoot(w.Roots[next])
	}
	switch r.Intn(9) {
	case 0:
		s.By = w.Bad
	case 1:
		s.By = without(s.By, r.Intn(len(s.By)))
	case 2:
		s.Root.Need = 1 + s.Root.Need%3
	case 3:
		s = impl.SigRoot{Root: impl.Root{Num: w.Trust.Root.Num + 1, Keys: w.Bad, Need: 1}, By: pick(w.Bad, uint(r.Intn(64)))}
	}
	return s
}

// randomIndex was published, or is one that was, changed, or signed by others, or one of the bad keys alone, that tells of what was not published.
func randomIndex(r *rand.Rand, w impl.World) impl.SigIndex {
	forged := impl.SigIndex{Index: wantIndex(1+r.Intn(30), 60, mixed(uint(r.Intn(256)), uint(r.Intn(256)))), By: pick(w.Bad, uint(r.Intn(64)))}
	if len(w.Indexes) == 0 {
		return forged
	}
	s := cloneSigIndex(lastOf(w.Indexes))
	if r.Intn(4) == 0 {
		s = cloneSigIndex(w.Indexes[r.Intn(len(w.Indexes))])
	}
	switch r.Intn(9) {
	case 0:
		return forged
	case 1:
		s.By = w.Bad
	case 2:
		s.By = without(s.By, r.Intn(len(s.By)))
	case 3:
		s.Index.Until, s.Index.Num = 60, 30
	}
	return s
}

// plays are all of them: some by hand, and some random.
func plays(t *testing.T) []play {
	t.Helper()
	return append(handPlays(t), randomPlays(200)...)
}

// playedWorlds are behind plays, and on the way there.
func playedWorlds(t *testing.T) []impl.World {
	t.Helper()
	r, out := rand.New(rand.NewSource(77)), []impl.World{}
	for _, p := range plays(t) {
		all := p.worlds()
		out = append(out, cloneWorld(lastOf(all)), cloneWorld(all[r.Intn(len(all))]))
	}
	return out
}

// mendedWorlds are those behind EvMend of all.
func mendedWorlds(t *testing.T) []impl.World {
	t.Helper()
	out := []impl.World{}
	for _, w := range playedWorlds(t) {
		out = append(out, worldBehind(w, mendAll()))
	}
	return out
}

// growing are played worlds in which there may be one index more.
func growing(t *testing.T) []impl.World {
	t.Helper()
	return slices.DeleteFunc(playedWorlds(t), func(w impl.World) bool { return len(w.Indexes) == 30 })
}

func TestPlaysAreOfAllKinds(t *testing.T) {
	kinds := map[string]int{}
	for _, p := range plays(t) {
		if len(p.events) > playTop {
			t.Errorf("%d events are too many", len(p.events))
		}
		all := p.worlds()
		for i, e := range p.events {
			kinds[fmt.Sprint("event ", e.Kind, !sameWorld(all[i], all[i+1]))]++
		}
		for _, w := range all {
			kinds[fmt.Sprint("roots ", len(w.Roots))]++
			kinds[fmt.Sprint("trusted roots ", w.Trust.Root.Num)]++
			kinds[fmt.Sprint("trusted roots behind ", min(2, len(w.Roots)-w.Trust.Root.Num))]++
			kinds[fmt.Sprint("indexes ", len(w.Indexes), w.Trust.Has)]++
			kinds[fmt.Sprint("packages ", len(w.Pkgs))]++
			kinds[fmt.Sprint("kept ", len(w.Store))]++
			kinds[fmt.Sprint("in ", len(w.Disk.Db), w.Disk.Has)]++
			kinds[fmt.Sprint("to be in ", len(w.Disk.Jour))]++
			kinds[fmt.Sprint("torn ", slices.Contains(w.Disk.Files, dataTorn))]++
			kinds[fmt.Sprint("bad ", len(w.Bad))]++
			kinds[fmt.Sprint("now ", w.Now)]++
			kinds[fmt.Sprint("fresh ", w.Trust.Has, w.Now <= w.Trust.Index.Until)]++
		}
	}
	want := []string{"event 0 false", "event 10 false", "torn true", "torn false", "indexes 30 true", "indexes 30 false", "fresh true true", "fresh true false", "fresh false false"}
	for kind := evPub; kind <= evMend; kind++ {
		want = append(want, fmt.Sprint("event ", kind, " true"))
		// 60 ticks alone are no more than time has.
		if kind != evTick {
			want = append(want, fmt.Sprint("event ", kind, " false"))
		}
	}
	for n := range 5 {
		want = append(want, fmt.Sprint("in ", n, " true"), fmt.Sprint("in ", n, " false"), fmt.Sprint("bad ", n), fmt.Sprint("to be in ", n))
	}
	for n := range 9 {
		want = append(want, fmt.Sprint("roots ", n+1), fmt.Sprint("trusted roots ", n+1), fmt.Sprint("packages ", n), fmt.Sprint("kept ", n))
	}
	for n := range 61 {
		want = append(want, fmt.Sprint("now ", n))
	}
	for n := range 3 {
		want = append(want, fmt.Sprint("trusted roots behind ", n))
	}
	for _, kind := range want {
		if kinds[kind] == 0 {
			t.Errorf("nothing is of the kind %q", kind)
		}
	}
}

func TestPlayedWorldsAreWorlds(t *testing.T) {
	for _, p := range plays(t) {
		for _, w := range p.worlds() {
			checkWorldOk(t, w, true)
		}
	}
}
