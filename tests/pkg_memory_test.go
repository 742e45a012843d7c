package tests

import (
	"slices"
	"sync"
	"testing"

	"loop.example/purser/impl"
)

// roomy is a package whose lists have marked room behind their ends, and a look at all of that room.
func roomy(p impl.Pkg) (impl.Pkg, []impl.File, []impl.Dep) {
	files, deps := []impl.File{}, []impl.Dep{}
	files = append(files, p.Files...)
	deps = append(deps, p.Deps...)
	for i := 0; i < 5; i++ {
		files = append(files, impl.File{Path: 100 + i, Data: 200 + i})
		deps = append(deps, impl.Dep{Name: 300 + i, Least: 400 + i})
	}
	p.Files = files[:len(p.Files)]
	p.Deps = deps[:len(p.Deps)]
	return p, files, deps
}

func TestNothingIsWrittenIntoAnArgument(t *testing.T) {
	list := append(somePkgs(),
		impl.Pkg{},
		impl.Pkg{Name: 1, Ver: 1, Files: []impl.File{{Path: 3, Data: 1}, {Path: 0, Data: 1}}},
		impl.Pkg{Name: 1, Ver: 1, Deps: []impl.Dep{{Name: 3, Least: 1}, {Name: 2, Least: 1}}},
		impl.Pkg{Name: 1, Ver: 1, Files: make([]impl.File, 9), Deps: make([]impl.Dep, 9)},
	)
	for _, p := range list {
		q, files, deps := roomy(p)
		filesWere, depsWere := slices.Clone(files), slices.Clone(deps)
		if impl.PkgOk(q) != impl.PkgOk(clonePkg(p)) || impl.PkgText(q) != impl.PkgText(clonePkg(p)) {
			t.Errorf("room behind the lists of %v is seen", p)
		}
		if !slices.Equal(files, filesWere) || !slices.Equal(deps, depsWere) {
			t.Errorf("an argument was changed: %v", p)
		}
	}
}

func TestAnswersShareNoMemory(t *testing.T) {
	for _, p := range somePkgs() {
		text := wantText(p)
		a, b := mustRead(t, text), mustRead(t, text)
		allFiles, allDeps := a.Files[:cap(a.Files)], a.Deps[:cap(a.Deps)]
		for i := range allFiles {
			allFiles[i] = impl.File{Path: 77, Data: 77}
		}
		if !slices.Equal(a.Deps, p.Deps) {
			t.Errorf("files and needs of %q share memory", text)
		}
		for i := range allDeps {
			allDeps[i] = impl.Dep{Name: 88, Least: 88}
		}
		for i := range a.Files {
			if a.Files[i] != (impl.File{Path: 77, Data: 77}) {
				t.Errorf("files and needs of %q share memory", text)
			}
		}
		if !samePkg(b, p) || !samePkg(mustRead(t, text), p) {
			t.Errorf("two answers of %q share memory", text)
		}
	}
}

func TestNothingIsKeptBetweenCalls(t *testing.T) {
	var group sync.WaitGroup
	for range 4 {
		group.Go(func() {
			for _, p := range somePkgs() {
				text := wantText(p)
				q, ok := impl.PkgRead(text)
				if !ok || !samePkg(p, q) || impl.PkgText(p) != text || impl.SumOf(text) != impl.SumOf(text) {
					t.Errorf("%q is not the same again", text)
				}
				if _, ok := impl.PkgRead(text + " "); ok {
					t.Errorf("%q is read with a blank more", text)
				}
			}
		})
	}
	group.Wait()
}
