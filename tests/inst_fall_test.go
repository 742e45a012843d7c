package tests

import (
	"testing"

	"loop.example/purser/impl"
)

// P65
func TestFallWhilePuttingIn(t *testing.T) {
	for _, p := range somePuts(t) {
		steps := checkSteps(t, p.disk, p.list)
		for _, at := range fallenAt(len(steps)) {
			want := p.disk
			if at.cut > 0 {
				want = holding(p.list)
			}
			got := checkMend(t, checkTo(t, p.disk, steps, at, true), true)
			checkDiskTrue(t, got, true)
			if !sameDisk(got, want) {
				t.Errorf("%v put in on %v, fallen at %v, and mended is %v, want %v", p.list, p.disk, at, got, want)
			}
		}
	}
}

// P65: ahead of the journal, behind it, at each place, at the packages, and ahead of and behind its end.
func TestFallAtEachStepByHand(t *testing.T) {
	full := fullLists(t)
	was, toBe := holding(full[0]), holding(full[1])
	steps := checkSteps(t, was, full[1])
	if len(steps) != 9 {
		t.Fatalf("InstSteps(%v, %v) = %v", was, full[1], steps)
	}
	for _, at := range fallenAt(9) {
		fallen := checkTo(t, was, steps, at, true)
		torn := 0
		for _, data := range fallen.Files {
			if data == impl.FileTorn {
				torn++
			}
		}
		if fallen.Has != (0 < at.cut && at.cut < 9) || (torn == 1) != (at.torn && 0 < at.cut && at.cut < 7) || torn > 1 {
			t.Errorf("fallen at %v there is %v", at, fallen)
		}
		if isIn := len(fallen.Db) > 0; isIn == (at == fall{7, true}) {
			t.Errorf("fallen at %v there is in %v", at, fallen.Db)
		}
		want := toBe
		if at.cut == 0 {
			want = was
		}
		if got := checkMend(t, fallen, true); !sameDisk(got, want) {
			t.Errorf("fallen at %v, and mended, there is %v, want %v", at, got, want)
		}
	}
}

// P67
func TestFallWhileMending(t *testing.T) {
	for _, d := range append(fallenDisks(t), someDisks(t)[0], impl.DiskNew()) {
		checkFalls(t, d, checkMend(t, d, true), 1)
	}
}

// P67: once, once more, and once more.
func TestFallWhileMendingOnceMore(t *testing.T) {
	for i, d := range fallenDisks(t) {
		if i%4 == 0 {
			checkFalls(t, d, checkMend(t, d, true), 2)
		}
		if i%60 == 0 {
			checkFalls(t, d, checkMend(t, d, true), 3)
		}
	}
}

// checkFalls falls at each of InstMends, so often, and asks each time that it is mended as it would have been.
func checkFalls(t *testing.T, d, want impl.Disk, often int) {
	t.Helper()
	mends := checkMends(t, d)
	for _, at := range fallenAt(len(mends)) {
		fallen := checkTo(t, d, mends, at, true)
		if got := checkMend(t, fallen, true); !sameDisk(got, want) {
			t.Errorf("%v mended, fallen at %v, and mended is %v, want %v", d, at, got, want)
		}
		if often > 1 {
			checkFalls(t, fallen, want, often-1)
		}
	}
}

// P65, P67: a fall while packages are put in, and then while that is mended.
func TestFallWhilePuttingInAndWhileMending(t *testing.T) {
	for _, p := range somePuts(t) {
		steps := checkSteps(t, p.disk, p.list)
		for _, at := range fallenAt(len(steps)) {
			want := p.disk
			if at.cut > 0 {
				want = holding(p.list)
			}
			checkFalls(t, checkTo(t, p.disk, steps, at, true), want, 1)
		}
	}
}

// P65, P71: what fell, and was mended, is put in once more, or others are, as if it had not fallen.
func TestPuttingInBehindAFall(t *testing.T) {
	others := fullLists(t)
	for i, p := range somePuts(t) {
		steps := checkSteps(t, p.disk, p.list)
		for _, at := range fallenAt(len(steps)) {
			d := checkMend(t, checkTo(t, p.disk, steps, at, true), true)
			for _, list := range [][]impl.Pkg{p.list, others[i%len(others)], nil} {
				if got := checkAll(t, d, checkSteps(t, d, list)); !sameDisk(got, holding(list)) {
					t.Errorf("%v put in on %v is %v", list, d, got)
				}
			}
		}
	}
}

// Nothing is put in on a disk that fell and was not mended, but ahead of its journal and behind its end.
func TestPuttingInIsNotDoneAheadOfMending(t *testing.T) {
	for _, p := range somePuts(t) {
		steps := checkSteps(t, p.disk, p.list)
		for _, at := range fallenAt(len(steps)) {
			fallen := checkTo(t, p.disk, steps, at, true)
			if got := checkSteps(t, fallen, p.list); (len(got) == 0) != (0 < at.cut && at.cut < len(steps)) {
				t.Errorf("fallen at %v, InstSteps(%v, %v) = %v", at, fallen, p.list, got)
			}
		}
	}
}
