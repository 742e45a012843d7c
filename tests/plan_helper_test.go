package tests

import (
	"fmt"
	"math/rand"
	"slices"
	"testing"

	"loop.example/purser/impl"
)

// isTogether says, without the program, whether packages can be in together.
func isTogether(list []impl.Pkg) bool {
	if !isStore(list) {
		return false
	}
	vers, places := [5]int{}, [6]int{}
	for _, p := range list {
		if vers[p.Name] != 0 {
			return false
		}
		vers[p.Name] = p.Ver
		for _, f := range p.Files {
			if places[f.Path]++; places[f.Path] > 1 {
				return false
			}
		}
	}
	for _, p := range list {
		for _, d := range p.Deps {
			if vers[d.Name] < d.Least {
				return false
			}
		}
	}
	return true
}

// newerOf is, without the program, the newer one of each name, at the place of the name; one of no version, if there is neither.
func newerOf(store, have []impl.Pkg) [5]impl.Pkg {
	newer := [5]impl.Pkg{}
	for _, p := range store {
		newer[p.Name] = p
	}
	for _, p := range have {
		if p.Ver >= newer[p.Name].Ver {
			newer[p.Name] = p
		}
	}
	return newer
}

// reached says, without the program, of which names one is to be in, at the place of the name.
func reached(newer [5]impl.Pkg, have []impl.Pkg, name int) [5]bool {
	names := [5]bool{}
	names[name] = true
	for _, p := range have {
		names[p.Name] = true
	}
	for range 4 {
		for n := range newer {
			for _, d := range newer[n].Deps {
				names[d.Name] = names[d.Name] || names[n]
			}
		}
	}
	return names
}

// chosen is, without the program, what would be in, whether it can or not, and whether there is one of each name.
func chosen(store, have []impl.Pkg, name int) ([]impl.Pkg, bool) {
	newer := newerOf(store, have)
	names, out, all := reached(newer, have, name), []impl.Pkg{}, true
	for n := 1; n <= 4; n++ {
		if names[n] && newer[n].Ver == 0 {
			all = false
		} else if names[n] {
			out = append(out, newer[n])
		}
	}
	return out, all
}

// wantPlan is, without the program, what PlanFor answers.
func wantPlan(store, have []impl.Pkg, name int) ([]impl.Pkg, bool) {
	if !isStore(store) || !isTogether(have) || name < 1 || name > 4 {
		return nil, false
	}
	if out, all := chosen(store, have, name); all && isTogether(out) {
		return out, true
	}
	return nil, false
}

// wantFiles is, without the program, what PlanFiles answers.
func wantFiles(list []impl.Pkg) []int {
	if !isTogether(list) {
		return nil
	}
	files := []int{-1, -1, -1, -1, -1, -1}
	for _, p := range list {
		for _, f := range p.Files {
			files[f.Path] = f.Data
		}
	}
	return files
}

// wantWhy is, without the program, what PlanWhy answers.
func wantWhy(list []impl.Pkg) string {
	if !isStore(list) {
		return "no packages\n"
	}
	out := ""
	for i, p := range list {
		head := fmt.Sprintf("%c%d", 'a'+p.Name-1, p.Ver)
		if i > 0 && list[i-1].Name == p.Name {
			out += fmt.Sprintf("%s beside %c%d\n", head, 'a'+p.Name-1, list[i-1].Ver)
		}
		for _, d := range p.Deps {
			if newerOf(list, nil)[d.Name].Ver < d.Least {
				out += fmt.Sprintf("%s lacks %c%d\n", head, 'a'+d.Name-1, d.Least)
			}
		}
		for _, f := range p.Files {
			if at := slices.IndexFunc(list[:i], func(q impl.Pkg) bool { return isAt(q, f.Path) }); at >= 0 {
				out += fmt.Sprintf("%s and %c%d at %d\n", head, 'a'+list[at].Name-1, list[at].Ver, f.Path)
			}
		}
	}
	if out == "" {
		return "fine\n"
	}
	return out
}

// isAt says whether a package has a file at a place.
func isAt(p impl.Pkg, path int) bool {
	return slices.ContainsFunc(p.Files, func(f impl.File) bool { return f.Path == path })
}

// needs says whether a package needs one of a name.
func needs(p impl.Pkg, name int) bool {
	return slices.ContainsFunc(p.Deps, func(d impl.Dep) bool { return d.Name == name })
}

// isNeeded says whether another package of a list needs one of that name.
func isNeeded(list []impl.Pkg, name int) bool {
	return slices.ContainsFunc(list, func(p impl.Pkg) bool { return needs(p, name) })
}

// withoutPkg is a new list, one place of a list left out.
func withoutPkg(list []impl.Pkg, place int) []impl.Pkg {
	return slices.Delete(slices.Clone(list), place, place+1)
}

// smallLists are all lists, in order, of few packages of three names: with one place, and with needs that are met or not, in a circle or not.
func smallLists(t *testing.T) [][]impl.Pkg {
	t.Helper()
	lists := [][]impl.Pkg{nil}
	for _, options := range [][][]string{
		{{"a1"}, {"a1 0:1"}, {"a1 b1"}, {"a1 b2 c1"}, {"a2 0:2"}, {"a1", "a2 0:1 b1"}, {"a1 0:1 c1", "a3"}},
		{{"b1"}, {"b1 0:3"}, {"b1 a1"}, {"b2 c1"}, {"b2 0:1 3:1"}, {"b1", "b2 a2"}},
		{{"c1"}, {"c1 0:5 5:5"}, {"c1 a1 b1"}, {"c2 3:7"}, {"c1 b2", "c2 3:7 b1"}},
	} {
		for _, list := range slices.Clone(lists) {
			for _, texts := range options {
				lists = append(lists, append(slices.Clone(list), readAll(t, texts...)...))
			}
		}
	}
	return lists
}

// catalog is one package of each name and version, in order; most files of a name are at places of its own, and most needs are of small versions.
func catalog(r *rand.Rand, homes []int) []impl.Pkg {
	out := []impl.Pkg{}
	for _, m := range ladder(0) {
		p := impl.Pkg{Name: m.Name, Ver: m.Ver}
		for path := range 6 {
			if stray := r.Intn(40) == 0; len(p.Files) < 2 && (stray || homes[path] == m.Name && r.Intn(3) > 0) {
				p.Files = append(p.Files, impl.File{Path: path, Data: r.Intn(10)})
			}
		}
		for name := 1; name <= 4; name++ {
			if name != m.Name && len(p.Deps) < 2 && r.Intn(4) == 0 {
				p.Deps = append(p.Deps, impl.Dep{Name: name, Least: 1 + r.Intn(1+r.Intn(5))})
			}
		}
		out = append(out, p)
	}
	return out
}

// planCase is what is kept, and what is in.
type planCase struct {
	store, have []impl.Pkg
}

// somePlanCases are ok: none to four are in, and of what is kept some are newer, some of the same version, the same or not, and some elder.
func somePlanCases() []planCase {
	r := rand.New(rand.NewSource(46))
	out := []planCase{{}}
	for range 150 {
		homes := []int{1, 2, 3, 4, 1 + r.Intn(4), 1 + r.Intn(4)}
		r.Shuffle(6, func(i, j int) { homes[i], homes[j] = homes[j], homes[i] })
		first, second := catalog(r, homes), catalog(r, homes)
		for range 12 {
			mask, more := uint(r.Intn(1<<20)), uint(r.Intn(1<<20))
			have := grown(r, pick(first, mask))
			for _, s := range [][]impl.Pkg{nil, pick(first, mask), pick(first, mask|more), pick(second, more), pick(second, mask&more), pick(second, more&uint(r.Intn(1<<20)))} {
				out = append(out, planCase{clonePkgs(s), clonePkgs(have)})
			}
		}
	}
	return out
}

// grown is what is in behind some names, put in one behind the other, each if it can be.
func grown(r *rand.Rand, store []impl.Pkg) []impl.Pkg {
	have := []impl.Pkg{}
	for range r.Intn(5) {
		if next, ok := wantPlan(store, have, 1+r.Intn(4)); ok {
			have = next
		}
	}
	return have
}

// smallPlanCases are all of small lists of which one can be in.
func smallPlanCases(t *testing.T) []planCase {
	t.Helper()
	out := []planCase{}
	lists := smallLists(t)
	for _, have := range lists {
		if isTogether(have) {
			for _, store := range lists {
				out = append(out, planCase{store, have})
			}
		}
	}
	return out
}

// orderedLists are lists in order, of which some can be in together, and of others one or several things are wrong.
func orderedLists(t *testing.T) [][]impl.Pkg {
	t.Helper()
	out := append(smallLists(t), somePkgLists()...)
	for _, c := range somePlanCases() {
		out = append(out, c.have, c.store)
		for name := 1; name <= 4; name++ {
			list, _ := chosen(c.store, c.have, name)
			out = append(out, list)
		}
	}
	for _, second := range []uint{0, 0xfffff, 0x2f1b7} {
		out = append(out, mixed(0xfffff, second), mixed(0x8421, second), mixed(0x1f, second), mixed(0x10842, second))
	}
	return out
}

// togetherLists are those of the ordered lists that can be in together.
func togetherLists(t *testing.T) [][]impl.Pkg {
	t.Helper()
	return slices.DeleteFunc(orderedLists(t), func(list []impl.Pkg) bool { return !isTogether(list) })
}

// apartLists are in order, but cannot be in together, each for one cause alone.
func apartLists(t *testing.T) [][]impl.Pkg {
	t.Helper()
	out := [][]impl.Pkg{}
	for _, texts := range [][]string{
		{"a1", "a2"}, {"a4", "a5"}, {"a1", "d1", "d5"}, {"a1 b1"}, {"a1 b2", "b1"}, {"a1 b5", "b4"}, {"a1", "b1 a2"}, {"a1 b1 c1", "b1"}, {"a1 b1 c1", "c1"},
		{"d5 a1"}, {"b1 a1"}, {"a1 0:1", "b1 0:1"}, {"a1 0:1", "b1 0:2"}, {"a1 5:1", "d1 5:2"}, {"a1 1:1 3:1", "b1 0:1 3:2"}, {"a1 1:1", "b1 2:1", "c1 3:1", "d1 0:1 1:1"},
		{"a1 b1", "b1 a2"}, {"a2 b1", "b1 c1", "c1 a3"},
	} {
		out = append(out, readAll(t, texts...))
	}
	return out
}

func checkPlanOk(t *testing.T, list []impl.Pkg, want bool) {
	t.Helper()
	if got := impl.PlanOk(list); got != want || isTogether(list) != want {
		t.Errorf("PlanOk(%v) = %v, want %v", list, got, want)
	}
}

// checkPlan asks whether there is a plan, and that it is as the document says, and tells it.
func checkPlan(t *testing.T, store, have []impl.Pkg, name int, want bool) []impl.Pkg {
	t.Helper()
	got, ok := impl.PlanFor(store, have, name)
	if list, _ := wantPlan(store, have, name); ok != want || !samePkgs(got, list) {
		t.Errorf("PlanFor(%v, %v, %d) = %v, %v; want %v, %v", store, have, name, got, ok, list, want)
	}
	return got
}

// checkPlanText is checkPlan of packages written as texts, with the plan asked for by its texts; there is none to be, if none are given.
func checkPlanText(t *testing.T, store, have []string, name int, want ...string) {
	t.Helper()
	got := checkPlan(t, readAll(t, store...), readAll(t, have...), name, len(want) > 0)
	if !samePkgs(got, readAll(t, want...)) {
		t.Errorf("PlanFor(%q, %q, %d) = %v, want %q", store, have, name, got, want)
	}
}

func checkPlanFiles(t *testing.T, list []impl.Pkg, want []int) {
	t.Helper()
	if got := impl.PlanFiles(list); !slices.Equal(got, want) {
		t.Errorf("PlanFiles(%v) = %v, want %v", list, got, want)
	}
}

func checkWhy(t *testing.T, list []impl.Pkg, want string) {
	t.Helper()
	if got := impl.PlanWhy(list); got != want {
		t.Errorf("PlanWhy(%v) = %q, want %q", list, got, want)
	}
}
