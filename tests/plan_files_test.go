package tests

import (
	"slices"
	"testing"

	"loop.example/purser/impl"
)

func TestFileConstants(t *testing.T) {
	if impl.FileNone != -1 || impl.FileTorn != -2 || impl.PathMax != 6 {
		t.Error(impl.FileNone, impl.FileTorn, impl.PathMax)
	}
}

func TestPlanFilesByHand(t *testing.T) {
	checkPlanFiles(t, nil, []int{-1, -1, -1, -1, -1, -1})
	checkPlanFiles(t, []impl.Pkg{}, []int{-1, -1, -1, -1, -1, -1})
	checkPlanFiles(t, readAll(t, "a1"), []int{-1, -1, -1, -1, -1, -1})
	checkPlanFiles(t, readAll(t, "a1 0:0"), []int{0, -1, -1, -1, -1, -1})
	checkPlanFiles(t, readAll(t, "d5 0:9 5:1"), []int{9, -1, -1, -1, -1, 1})
	checkPlanFiles(t, readAll(t, "a2 0:2 b2", "b2 1:1"), []int{2, 1, -1, -1, -1, -1})
	checkPlanFiles(t, readAll(t, "a1 0:1 3:4", "b1 1:2 4:5", "c1 2:3 5:6"), []int{1, 2, 3, 4, 5, 6})
	for _, list := range append(apartLists(t), oddStores(t)...) {
		checkPlanFiles(t, list, nil)
	}
}

// P52
func TestPlanFilesHasEachFile(t *testing.T) {
	for _, list := range togetherLists(t) {
		files := impl.PlanFiles(list)
		if len(files) != 6 {
			t.Fatalf("PlanFiles(%v) = %v", list, files)
		}
		for path, data := range files {
			want := impl.FileNone
			for _, p := range list {
				for _, f := range p.Files {
					if f.Path == path {
						want = f.Data
					}
				}
			}
			if data != want {
				t.Errorf("PlanFiles(%v) = %v, with %d at %d", list, files, data, path)
			}
		}
	}
	for _, files := range fileLists(0, 1, 8, 9) {
		p := impl.Pkg{Name: 3, Ver: 2, Files: files}
		checkPlanFiles(t, []impl.Pkg{p}, wantFiles([]impl.Pkg{p}))
	}
}

// P52: nothing is told of packages that cannot be in together.
func TestPlanFilesOfAnyPackagesInOrder(t *testing.T) {
	for _, list := range orderedLists(t) {
		checkPlanFiles(t, list, wantFiles(list))
	}
}

// P57
func TestPlanFilesWithoutOneThatNobodyNeeds(t *testing.T) {
	changed := 0
	for _, list := range togetherLists(t) {
		for i, p := range list {
			rest := withoutPkg(list, i)
			if isNeeded(rest, p.Name) {
				continue
			}
			want := slices.Clone(impl.PlanFiles(list))
			if len(want) != 6 {
				t.Fatalf("PlanFiles(%v) = %v", list, want)
			}
			for _, f := range p.Files {
				want[f.Path] = impl.FileNone
				changed++
			}
			checkPlanFiles(t, rest, want)
		}
	}
	if changed == 0 {
		t.Error("no file went")
	}
}
