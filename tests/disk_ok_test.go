package tests

import (
	"slices"
	"testing"

	"loop.example/purser/impl"
)

func TestDiskConstants(t *testing.T) {
	got := []int{impl.StepJour, impl.StepFile, impl.StepDb, impl.StepDone, impl.FileTorn, impl.FileNone, impl.DataMax, impl.PathMax}
	if want := []int{kindJour, kindFile, kindDb, kindDone, dataTorn, dataNone, dataTop, 6}; !slices.Equal(got, want) {
		t.Errorf("constants are %v, want %v", got, want)
	}
}

// P58
func TestDiskNewIsTrue(t *testing.T) {
	d := impl.DiskNew()
	if !sameDisk(d, impl.Disk{Files: []int{-1, -1, -1, -1, -1, -1}}) {
		t.Errorf("DiskNew() = %v", d)
	}
	checkDiskOk(t, d, true)
	checkDiskTrue(t, d, true)
}

func TestDiskOkByHand(t *testing.T) {
	files := []int{-1, -1, -1, -1, -1, -1}
	a, b, ab := readAll(t, "a1 0:1"), readAll(t, "b1 a1"), readAll(t, "a2", "b1 a1")
	for _, d := range []impl.Disk{
		{Files: files}, {Files: files, Has: true}, {Db: a, Files: files}, {Db: a, Files: files, Has: true}, {Files: files, Has: true, Jour: a},
		{Db: a, Files: files, Has: true, Jour: a}, {Db: a, Files: files, Has: true, Jour: ab}, {Db: ab, Files: files, Has: true, Jour: a},
		{Db: []impl.Pkg{}, Files: []int{-2, -1, 0, 1, 8, 9}, Jour: []impl.Pkg{}}, {Db: ab, Files: []int{9, 9, 9, -2, -2, -2}},
	} {
		checkDiskOk(t, d, true)
	}
	for _, d := range []impl.Disk{
		{}, {Has: true}, {Db: a}, {Files: files[1:]}, {Files: append(slices.Clone(files), -1)}, {Files: []int{-1, -1, -3, -1, -1, -1}}, {Files: []int{-1, -1, -1, -1, -1, 10}},
		{Db: b, Files: files}, {Files: files, Has: true, Jour: b}, {Db: a, Files: files, Has: true, Jour: b}, {Db: b, Files: files, Has: true, Jour: ab}, {Files: files, Jour: a}, {Db: ab, Files: files, Jour: ab},
	} {
		checkDiskOk(t, d, false)
		checkDiskTrue(t, d, false)
	}
}

func TestDiskOkOfAllKinds(t *testing.T) {
	for _, d := range append(someDisks(t), randomDisks(200)...) {
		checkDiskOk(t, d, true)
	}
	for _, d := range oddDisks(t) {
		checkDiskOk(t, d, false)
		checkDiskTrue(t, d, false)
	}
}

// Each place by itself may have anything from what is torn up to the most.
func TestDiskOkOfAllThatIsAtAPlace(t *testing.T) {
	numbers := slices.Clone(farNumbers)
	for n := -20; n <= 300; n++ {
		numbers = append(numbers, n)
	}
	for _, d := range fewDisks(t) {
		for path := range 6 {
			for _, n := range numbers {
				e := d
				e.Files = with(d.Files, path, n)
				checkDiskOk(t, e, -2 <= n && n <= 9)
			}
		}
	}
}

func TestDiskOkOfHowManyPlaces(t *testing.T) {
	for n := range 40 {
		for _, data := range []int{-2, -1, 0, 9} {
			files := slices.Repeat([]int{data}, n)
			checkDiskOk(t, impl.Disk{Files: files}, n == 6)
			checkDiskOk(t, impl.Disk{Db: readAll(t, "a1"), Files: files, Has: true}, n == 6)
			checkDiskTrue(t, impl.Disk{Files: files}, n == 6 && data == -1)
		}
	}
}

// What is in, and what is to be in, are asked each by itself: they need not go together.
func TestDiskOkOfTwoThatDoNotGoTogether(t *testing.T) {
	lists := append(fewTogether(t), readAll(t, "a5 0:1"), readAll(t, "b1 0:2"), readAll(t, "a1 0:7 5:7"), readAll(t, "a1 c5", "c5"))
	for _, db := range lists {
		for _, jour := range lists {
			checkDiskOk(t, impl.Disk{Db: db, Files: wantFiles(jour), Has: true, Jour: jour}, true)
			checkDiskOk(t, impl.Disk{Db: db, Files: wantFiles(db), Jour: jour}, len(jour) == 0)
		}
	}
}

func TestDiskOkOfAnyPackagesInOrder(t *testing.T) {
	files, none := []int{-2, -1, 0, 5, 9, -1}, 0
	for i, list := range orderedLists(t) {
		if i%4 > 0 {
			continue
		}
		want := isTogether(list)
		checkDiskOk(t, impl.Disk{Db: list, Files: files}, want)
		checkDiskOk(t, impl.Disk{Files: files, Has: true, Jour: list}, want)
		if !want {
			none++
		}
	}
	if none == 0 {
		t.Error("all lists can be in together")
	}
}

// P58
func TestDiskTrueByHand(t *testing.T) {
	ab := readAll(t, "a2 0:2 b2", "b2 1:0")
	for _, d := range []impl.Disk{
		{Files: []int{-1, -1, -1, -1, -1, -1}}, {Db: ab, Files: []int{2, 0, -1, -1, -1, -1}}, {Db: readAll(t, "c5"), Files: []int{-1, -1, -1, -1, -1, -1}},
		{Db: readAll(t, "d5 0:9 5:1"), Files: []int{9, -1, -1, -1, -1, 1}},
	} {
		checkDiskTrue(t, d, true)
		d.Has = true
		checkDiskTrue(t, d, false)
		d.Jour = d.Db
		checkDiskTrue(t, d, false)
	}
	for _, files := range [][]int{
		{-1, -1, -1, -1, -1, -1}, {2, -1, -1, -1, -1, -1}, {0, 2, -1, -1, -1, -1}, {2, 0, -1, -1, -1, 0}, {2, 0, -2, -1, -1, -1}, {-2, 0, -1, -1, -1, -1}, {2, 1, -1, -1, -1, -1}, {-2, -2, -2, -2, -2, -2},
	} {
		checkDiskTrue(t, impl.Disk{Db: ab, Files: files}, false)
	}
}

// P58
func TestDiskTrueJustIfAllIsSo(t *testing.T) {
	yes, no := 0, 0
	for _, d := range append(someDisks(t), randomDisks(200)...) {
		want := impl.DiskOk(d) && !d.Has && slices.Equal(impl.PlanFiles(d.Db), d.Files)
		checkDiskTrue(t, d, want)
		if want {
			yes++
		} else {
			no++
		}
	}
	if yes == 0 || no == 0 {
		t.Errorf("%d disks are true, and %d are not", yes, no)
	}
}

// P58: another thing at any one place, a journal of anything, or other packages in, and it is not true any more.
func TestDiskTrueWithOneThingChanged(t *testing.T) {
	for _, list := range append(fewTogether(t), somePlanCases()[500].have, somePlanCases()[900].have) {
		d := impl.Disk{Db: list, Files: wantFiles(list)}
		checkDiskTrue(t, d, true)
		for path := range 6 {
			for data := -5; data <= 12; data++ {
				e := cloneDisk(d)
				e.Files[path] = data
				checkDiskTrue(t, e, data == d.Files[path])
			}
		}
		for _, other := range fewTogether(t) {
			checkDiskTrue(t, impl.Disk{Db: list, Files: d.Files, Has: true, Jour: other}, false)
			checkDiskTrue(t, impl.Disk{Db: other, Files: d.Files}, slices.Equal(wantFiles(other), d.Files))
		}
	}
}

// P58: packages whose files are the same are in with the same at all places.
func TestDiskTrueOfAnyPackages(t *testing.T) {
	for i, list := range togetherLists(t) {
		if i%8 == 0 {
			checkDiskTrue(t, impl.Disk{Db: list, Files: wantFiles(list)}, true)
			checkDiskTrue(t, impl.Disk{Db: list, Files: someFiles(list)[1+i/8%10]}, slices.Equal(someFiles(list)[1+i/8%10], wantFiles(list)))
		}
	}
}
