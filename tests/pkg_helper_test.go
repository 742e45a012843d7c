package tests

import (
	"fmt"
	"regexp"
	"slices"
	"strings"
	"testing"

	"loop.example/purser/impl"
)

// pkgForm is the form of a package's text as the document's words give it; order is asked for beside it.
var pkgForm = regexp.MustCompile(`\A[a-d][1-5]( [0-5]:[0-9]){0,2}( [a-d][1-5]){0,2}\z`)

// isPkgText says, without the program, whether a text is that of an ok package.
func isPkgText(text string) bool {
	if !pkgForm.MatchString(text) {
		return false
	}
	words := strings.Split(text, " ")
	lastPath, lastNeed := byte(0), byte(0)
	for _, w := range words[1:] {
		last := &lastNeed
		if w[1] == ':' {
			last = &lastPath
		}
		if w[0] <= *last || w[0] == words[0][0] {
			return false
		}
		*last = w[0]
	}
	return true
}

// wantText writes, without the program, the text of a package that is ok.
func wantText(p impl.Pkg) string {
	out := fmt.Sprintf("%c%d", rune('a'+p.Name-1), p.Ver)
	for _, f := range p.Files {
		out += fmt.Sprintf(" %d:%d", f.Path, f.Data)
	}
	for _, d := range p.Deps {
		out += fmt.Sprintf(" %c%d", rune('a'+d.Name-1), d.Least)
	}
	return out
}

// samePkg takes the empty list and the nil list as the same value.
func samePkg(a, b impl.Pkg) bool {
	return a.Name == b.Name && a.Ver == b.Ver && slices.Equal(a.Files, b.Files) && slices.Equal(a.Deps, b.Deps)
}

func clonePkg(p impl.Pkg) impl.Pkg {
	p.Files = slices.Clone(p.Files)
	p.Deps = slices.Clone(p.Deps)
	return p
}

// fileLists are all lists of files that are ok, with the given data in them.
func fileLists(data ...int) [][]impl.File {
	one := []impl.File{}
	for path := 0; path < 6; path++ {
		for _, d := range data {
			one = append(one, impl.File{Path: path, Data: d})
		}
	}
	lists := [][]impl.File{nil}
	for _, f := range one {
		lists = append(lists, []impl.File{f})
		for _, g := range one {
			if f.Path < g.Path {
				lists = append(lists, []impl.File{f, g})
			}
		}
	}
	return lists
}

// depLists are all lists of needs that are ok for a package of that name, with the given versions.
func depLists(own int, versions ...int) [][]impl.Dep {
	one := []impl.Dep{}
	for name := 1; name <= 4; name++ {
		for _, v := range versions {
			if name != own {
				one = append(one, impl.Dep{Name: name, Least: v})
			}
		}
	}
	lists := [][]impl.Dep{nil}
	for _, d := range one {
		lists = append(lists, []impl.Dep{d})
		for _, e := range one {
			if d.Name < e.Name {
				lists = append(lists, []impl.Dep{d, e})
			}
		}
	}
	return lists
}

// eachPkg calls do with every ok package of these versions and data.
func eachPkg(versions, data []int, do func(impl.Pkg)) {
	files := fileLists(data...)
	for name := 1; name <= 4; name++ {
		deps := depLists(name, versions...)
		for _, ver := range versions {
			for _, f := range files {
				for _, d := range deps {
					do(impl.Pkg{Name: name, Ver: ver, Files: f, Deps: d})
				}
			}
		}
	}
}

// somePkgs are a few hundred ok packages: all shapes, and the ends of all bounds.
func somePkgs() []impl.Pkg {
	out := []impl.Pkg{}
	n := 0
	eachPkg([]int{1, 5}, []int{0, 9}, func(p impl.Pkg) {
		// 29 shares no divisor with how many files, needs or versions there are, so that all of them come up.
		if n++; n%29 == 1 {
			out = append(out, clonePkg(p))
		}
	})
	return out
}

// mustRead reads a text that is ok.
func mustRead(t *testing.T, text string) impl.Pkg {
	t.Helper()
	p, ok := impl.PkgRead(text)
	if !ok {
		t.Fatalf("PkgRead(%q) is false", text)
	}
	return p
}

// checkNone asks that a text is no package's, and that nothing is answered beside the false.
func checkNone(t *testing.T, text string) {
	t.Helper()
	p, ok := impl.PkgRead(text)
	if ok || !samePkg(p, impl.Pkg{}) {
		t.Errorf("PkgRead(%q) = %v, %v; want nothing and false", text, p, ok)
	}
}

// checkRead holds PkgRead of any text against the form that the document gives.
func checkRead(t *testing.T, text string) {
	t.Helper()
	if !isPkgText(text) {
		checkNone(t, text)
		return
	}
	p, ok := impl.PkgRead(text)
	if !ok || !impl.PkgOk(p) || impl.PkgText(p) != text || wantText(p) != text {
		t.Errorf("PkgRead(%q) = %v, %v", text, p, ok)
	}
}
