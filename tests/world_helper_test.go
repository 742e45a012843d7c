package tests

import (
	"slices"
	"testing"

	"loop.example/purser/impl"
)

// Kinds of events as the document numbers them, and how many may happen.
const (
	evPub, evIndex, evRoot, evTick, evBringRoot, evBringIndex, evBringPkg, evInst, evMend = 1, 2, 3, 4, 5, 6, 7, 8, 9
	playTop                                                                               = 60
)

func sameSigRoot(a, b impl.SigRoot) bool {
	return sameRoot(a.Root, b.Root) && slices.Equal(a.By, b.By)
}

func sameSigIndex(a, b impl.SigIndex) bool {
	return sameIndex(a.Index, b.Index) && slices.Equal(a.By, b.By)
}

// isPublished says, without the program, whether what is published, and by whom, can be so at a time, in spite of bad keys.
func isPublished(w impl.World) bool {
	for i, s := range w.Roots {
		if s.Root.Num != i+1 || !wantSigned(s.Root, s.By) || wantSigned(s.Root, w.Bad) {
			return false
		}
		if i > 0 && !wantNext(w.Roots[i-1].Root, s) {
			return false
		}
	}
	for i, s := range w.Indexes {
		if _, isKeys := keysMask(s.By); s.Index.Num != i+1 || !isIndex(s.Index) || !isKeys || s.Index.Until-w.Now > 6 {
			return false
		}
	}
	_, isKeys := keysMask(w.Bad)
	return isKeys && len(w.Roots) > 0 && isStore(w.Pkgs) && len(w.Pkgs) <= 8
}

// isAmong says whether each of a list is among all, the same.
func isAmong(list, all []impl.Pkg) bool {
	return !slices.ContainsFunc(list, func(p impl.Pkg) bool {
		return !slices.ContainsFunc(all, func(q impl.Pkg) bool { return samePkg(p, q) })
	})
}

// isFetched says, without the program, whether all that is trusted, kept, in, or to be in was published.
func isFetched(w impl.World) bool {
	isRoot := slices.ContainsFunc(w.Roots, func(s impl.SigRoot) bool { return sameRoot(s.Root, w.Trust.Root) })
	isIndex := slices.ContainsFunc(w.Indexes, func(s impl.SigIndex) bool { return sameIndex(s.Index, w.Trust.Index) })
	return isRoot && (isIndex || !w.Trust.Has) && isAmong(w.Store, w.Pkgs) && isAmong(w.Disk.Db, w.Pkgs) && isAmong(w.Disk.Jour, w.Pkgs)
}

// isWorld says, without the program, whether a world is ok.
func isWorld(w impl.World) bool {
	return 0 <= w.Now && w.Now <= 60 && isPublished(w) && isTrust(w.Trust) && isStore(w.Store) && isDisk(w.Disk) && isFetched(w)
}

// wantNew is, without the program, what WorldNew answers.
func wantNew(r impl.Root, bad []int) (impl.World, bool) {
	_, isKeys := keysMask(bad)
	if !isRoot(r) || r.Num != 1 || !isKeys || wantSigned(r, bad) {
		return impl.World{}, false
	}
	return impl.World{Roots: []impl.SigRoot{{Root: r, By: r.Keys}}, Bad: bad, Trust: impl.Trust{Root: r}, Disk: holding(nil)}, true
}

// canSign says, without the program, whether a world that is ok has a root, or an index, that is signed so.
func canSign(w impl.World, e impl.Event) bool {
	by, published := e.Root.By, slices.ContainsFunc(w.Roots, func(s impl.SigRoot) bool { return sameSigRoot(s, e.Root) })
	if e.Kind == evBringIndex {
		by, published = e.Index.By, slices.ContainsFunc(w.Indexes, func(s impl.SigIndex) bool { return sameSigIndex(s, e.Index) })
	}
	signers, isKeys := keysMask(by)
	bad, _ := keysMask(w.Bad)
	return published || isKeys && signers&^bad == 0
}

// wantMay is, without the program, what WorldMay answers.
func wantMay(w impl.World, e impl.Event) bool {
	return isWorld(w) && (e.Kind == evBringRoot || e.Kind == evBringIndex) && canSign(w, e)
}

// wantHappened is, without the program, what WorldDo answers.
func wantHappened(w impl.World, e impl.Event) impl.World {
	if !isWorld(w) {
		return impl.World{}
	}
	return worldBehind(w, e)
}

// worldBehind is, without the program, an ok world behind an event; it writes into no list of the world.
func worldBehind(w impl.World, e impl.Event) impl.World {
	switch e.Kind {
	case evPub:
		if isPkg(e.Pkg) && !slices.ContainsFunc(w.Pkgs, atPlace(e.Pkg.Name, e.Pkg.Ver)) && len(w.Pkgs) < 8 {
			w.Pkgs = inOrder(append(slices.Clone(w.Pkgs), e.Pkg))
		}
	case evIndex:
		if len(w.Indexes) < 30 {
			x := wantIndex(len(w.Indexes)+1, min(w.Now+6, 60), w.Pkgs)
			w.Indexes = append(slices.Clone(w.Indexes), impl.SigIndex{Index: x, By: lastOf(w.Roots).Root.Keys})
		}
	case evRoot:
		w = behindRoot(w, e.Root.Root)
	case evTick:
		w.Now = min(w.Now+1, 60)
	case evBringRoot:
		if canSign(w, e) {
			w.Trust, _ = wantTrustRoot(w.Trust, e.Root)
		}
	case evBringIndex:
		if next, ok := wantTrustIndex(w.Trust, e.Index, w.Now); ok && canSign(w, e) {
			w.Trust, w.Store = next, wantTrim(next, w.Store)
		}
	case evBringPkg:
		if 0 <= e.A && e.A < len(w.Pkgs) {
			w.Store, _ = wantAdd(w.Trust, w.Store, spoilt(wantText(w.Pkgs[e.A]), e.B, e.C))
		}
	case evInst, evMend:
		w.Disk = behindFall(w, e)
	}
	return w
}

func behindRoot(w impl.World, r impl.Root) impl.World {
	elder := lastOf(w.Roots).Root
	r.Num = elder.Num + 1
	if isRoot(r) && !wantSigned(r, w.Bad) {
		mask, _ := keysMask(elder.Keys)
		own, _ := keysMask(r.Keys)
		w.Roots = append(slices.Clone(w.Roots), impl.SigRoot{Root: r, By: maskKeys(mask | own)})
	}
	return w
}

func behindFall(w impl.World, e impl.Event) impl.Disk {
	steps := wantMends(w.Disk)
	if e.Kind == evInst {
		list, ok := wantPlan(w.Store, w.Disk.Db, e.A)
		if w.Disk.Has || !w.Trust.Has || w.Trust.Index.Until < w.Now || !ok {
			return w.Disk
		}
		steps = wantSteps(w.Disk, list)
	}
	if d, ok := wantTo(w.Disk, steps, e.B, e.Torn); ok {
		return d
	}
	return w.Disk
}

// spoilt is a text with one byte changed, but for its name and version.
func spoilt(text string, at, more int) string {
	if at < 2 || at >= len(text) {
		return text
	}
	return text[:at] + string([]byte{byte((int(text[at]) + more%256 + 256) % 256)}) + text[at+1:]
}

func lastOf[T any](list []T) T {
	return list[len(list)-1]
}

// wantPlay is, without the program, what WorldPlay answers.
func wantPlay(r impl.Root, bad []int, events []impl.Event) (impl.World, bool) {
	w, ok := wantNew(r, bad)
	if !ok || len(events) > playTop {
		return impl.World{}, false
	}
	return behindAll(w, events), true
}

// behindAll is, without the program, an ok world behind any number of events.
func behindAll(w impl.World, events []impl.Event) impl.World {
	for _, e := range events {
		w = worldBehind(w, e)
	}
	return w
}

// wantSync is, without the program, what WorldSync answers.
func wantSync(w impl.World) impl.World {
	if !isWorld(w) {
		return impl.World{}
	}
	w = behindAll(w, []impl.Event{mendAll(), {Kind: evIndex}})
	return behindAll(w, bringingAll(w))
}

// bringingAll are all events that bring what was published, in the order of WorldSync.
func bringingAll(w impl.World) []impl.Event {
	out := []impl.Event{}
	for _, s := range w.Roots {
		out = append(out, bringRoot(s))
	}
	if len(w.Indexes) > 0 {
		out = append(out, bringIndex(lastOf(w.Indexes)))
	}
	for i := range w.Pkgs {
		out = append(out, bringPkg(i))
	}
	return out
}

func bringRoot(s impl.SigRoot) impl.Event {
	return impl.Event{Kind: evBringRoot, Root: s}
}

func bringIndex(s impl.SigIndex) impl.Event {
	return impl.Event{Kind: evBringIndex, Index: s}
}

func bringPkg(place int) impl.Event {
	return impl.Event{Kind: evBringPkg, A: place}
}

func bringSpoilt(place, at, more int) impl.Event {
	return impl.Event{Kind: evBringPkg, A: place, B: at, C: more}
}

func publish(p impl.Pkg) impl.Event {
	return impl.Event{Kind: evPub, Pkg: p}
}

func publishRoot(need int, keys ...int) impl.Event {
	return impl.Event{Kind: evRoot, Root: impl.SigRoot{Root: impl.Root{Keys: keys, Need: need}}}
}

// putIn is EvInst that does not fall.
func putIn(name int) impl.Event {
	return impl.Event{Kind: evInst, A: name, B: playTop}
}

func fallIn(name int, at fall) impl.Event {
	return impl.Event{Kind: evInst, A: name, B: at.cut, Torn: at.torn}
}

// mendAll is EvMend that does not fall.
func mendAll() impl.Event {
	return impl.Event{Kind: evMend, B: playTop}
}

func fallMending(at fall) impl.Event {
	return impl.Event{Kind: evMend, B: at.cut, Torn: at.torn}
}

// often is an event so many times.
func often(n int, e impl.Event) []impl.Event {
	return slices.Repeat([]impl.Event{e}, n)
}

func tick(times int) []impl.Event {
	return often(times, impl.Event{Kind: evTick})
}

func sameWorld(a, b impl.World) bool {
	return a.Now == b.Now && samePublished(a, b) && sameFetched(a, b)
}

func samePublished(a, b impl.World) bool {
	return slices.EqualFunc(a.Roots, b.Roots, sameSigRoot) && slices.EqualFunc(a.Indexes, b.Indexes, sameSigIndex) && samePkgs(a.Pkgs, b.Pkgs) && slices.Equal(a.Bad, b.Bad)
}

func sameFetched(a, b impl.World) bool {
	return sameTrust(a.Trust, b.Trust) && samePkgs(a.Store, b.Store) && sameDisk(a.Disk, b.Disk)
}

func cloneSigRoot(s impl.SigRoot) impl.SigRoot {
	return impl.SigRoot{Root: cloneRoot(s.Root), By: slices.Clone(s.By)}
}

func cloneSigIndex(s impl.SigIndex) impl.SigIndex {
	return impl.SigIndex{Index: cloneIndex(s.Index), By: slices.Clone(s.By)}
}

func cloneWorld(w impl.World) impl.World {
	out := impl.World{Now: w.Now, Pkgs: clonePkgs(w.Pkgs), Bad: slices.Clone(w.Bad), Trust: cloneTrust(w.Trust), Store: clonePkgs(w.Store), Disk: cloneDisk(w.Disk)}
	for _, s := range w.Roots {
		out.Roots = append(out.Roots, cloneSigRoot(s))
	}
	for _, s := range w.Indexes {
		out.Indexes = append(out.Indexes, cloneSigIndex(s))
	}
	return out
}

func cloneEvent(e impl.Event) impl.Event {
	e.Pkg, e.Root, e.Index = clonePkg(e.Pkg), cloneSigRoot(e.Root), cloneSigIndex(e.Index)
	return e
}

// toBe is what is in, or, if there is a journal, what is to be in.
func toBe(w impl.World) []impl.Pkg {
	if w.Disk.Has {
		return w.Disk.Jour
	}
	return w.Disk.Db
}

// unfetched is a world that fetched nothing yet, of the same that was published.
func unfetched(w impl.World) impl.World {
	w.Trust, w.Store, w.Disk = impl.Trust{Root: w.Roots[0].Root}, nil, holding(nil)
	return w
}

func checkNew(t *testing.T, r impl.Root, bad []int, want bool) impl.World {
	t.Helper()
	got, ok := impl.WorldNew(r, bad)
	if w, _ := wantNew(r, bad); ok != want || !sameWorld(got, w) {
		t.Errorf("WorldNew(%v, %v) = %v, %v; want %v, %v", r, bad, got, ok, w, want)
	}
	return got
}

func checkWorldOk(t *testing.T, w impl.World, want bool) {
	t.Helper()
	if got := impl.WorldOk(w); got != want || isWorld(w) != want {
		t.Errorf("WorldOk(%v) = %v, want %v", w, got, want)
	}
}

func checkMay(t *testing.T, w impl.World, e impl.Event, want bool) {
	t.Helper()
	if got := impl.WorldMay(w, e); got != want || wantMay(w, e) != want {
		t.Errorf("WorldMay(%v, %v) = %v, want %v", w, e, got, want)
	}
}

// checkHappen lets something happen, asks that all is as the document says then, and tells the world.
func checkHappen(t *testing.T, w impl.World, e impl.Event) impl.World {
	t.Helper()
	got := impl.WorldDo(w, e)
	if want := wantHappened(w, e); !sameWorld(got, want) {
		t.Errorf("WorldDo(%v, %v) = %v, want %v", w, e, got, want)
	}
	return got
}

// checkHappenAll lets one behind the other happen.
func checkHappenAll(t *testing.T, w impl.World, events ...impl.Event) impl.World {
	t.Helper()
	for _, e := range events {
		w = checkHappen(t, w, e)
	}
	return w
}

// checkNothing asks that what happens changes nothing.
func checkNothing(t *testing.T, w impl.World, e impl.Event) {
	t.Helper()
	if got := checkHappen(t, w, e); !sameWorld(got, w) {
		t.Errorf("WorldDo(%v, %v) = %v, which is not as it was", w, e, got)
	}
}

// checkChange asks that what happens changes something, and tells the world.
func checkChange(t *testing.T, w impl.World, e impl.Event) impl.World {
	t.Helper()
	got := checkHappen(t, w, e)
	if sameWorld(got, w) {
		t.Errorf("WorldDo(%v, %v) changes nothing", w, e)
	}
	return got
}

// checkPlay plays, asks that all is as the document says, and tells the world.
func checkPlay(t *testing.T, r impl.Root, bad []int, events []impl.Event, want bool) impl.World {
	t.Helper()
	got, ok := impl.WorldPlay(r, bad, events)
	if w, _ := wantPlay(r, bad, events); ok != want || !sameWorld(got, w) {
		t.Errorf("WorldPlay(%v, %v, %v) = %v, %v; want %v, %v", r, bad, events, got, ok, w, want)
	}
	return got
}

// checkSync brings all, asks that all is as the document says then, and tells the world.
func checkSync(t *testing.T, w impl.World) impl.World {
	t.Helper()
	got := impl.WorldSync(w)
	if want := wantSync(w); !sameWorld(got, want) {
		t.Errorf("WorldSync(%v) = %v, want %v", w, got, want)
	}
	return got
}
