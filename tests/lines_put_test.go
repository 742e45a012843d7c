package tests

import (
	"fmt"
	"slices"
	"strings"
	"testing"

	"loop.example/purser/impl"
)

// letter is how a name is written.
func letter(name int) string {
	return string(rune('a' + name - 1))
}

// toldIn is what is told of a disk on which just these are in.
func toldIn(list ...impl.Pkg) string {
	return run{world: impl.World{Disk: holding(list)}}.seen()
}

// lonePkgs are packages of all shapes that need nothing.
func lonePkgs() []impl.Pkg {
	out := []impl.Pkg{}
	for name := 1; name <= 4; name++ {
		for i, files := range fileLists(0, 9) {
			out = append(out, impl.Pkg{Name: name, Ver: 1 + (i+name)%5, Files: files})
		}
	}
	return out
}

// P98
func TestLinesPutIn(t *testing.T) {
	for _, p := range append(lonePkgs(), somePkgs()...) {
		want := nothingTold
		if len(p.Deps) == 0 {
			want = toldIn(p)
		}
		checkTold(t, want, "pub "+wantText(p), "sync", "inst "+letter(p.Name))
	}
	checkTold(t, "c3 1:8 4:0\nfiles - 8 - - 0 -\n", "pub c3 1:8 4:0", "sync", "inst c")
	checkTold(t, nothingTold, "pub c3 1:8 4:0 a1", "sync", "inst c")
	checkTold(t, nothingTold, "pub c3 1:8 a2", "pub a1 0:1", "sync", "inst c")
	checkTold(t, "a2 0:1\nc3 1:8 a2\nfiles 1 8 - - - -\n", "pub c3 1:8 a2", "pub a2 0:1", "sync", "inst c")
	checkTold(t, "a2 0:1\nfiles 1 - - - - -\n", "pub c3 1:8 a2", "pub a2 0:1", "sync", "inst a")
	checkTold(t, "a1 b1\nb1 1:1 a1\nfiles - 1 - - - -\n", "pub b1 1:1 a1", "pub a1 b1", "sync", "inst b")
}

// P99: as many steps as there are files, and a journal, what is in, and the journal's end.
func TestLinesFall(t *testing.T) {
	for _, p := range lonePkgs() {
		head := []string{"pub " + wantText(p), "sync"}
		size := len(p.Files)
		for n := range size + 5 {
			files, want, in := wantFiles(nil), "", toldIn(p)
			for i, f := range p.Files {
				if i+1 < n {
					files[f.Path] = f.Data
				} else if i+1 == n {
					files[f.Path] = dataTorn
				}
			}
			if n >= size+2 {
				want = wantText(p) + "\n"
			}
			want += filesTold(files, 0 < n && n < size+3)
			if n == 0 {
				in = nothingTold
			}
			fallen := append(head, fmt.Sprint("fall ", letter(p.Name), " ", n))
			checkTold(t, want, fallen...)
			checkTold(t, in, append(fallen, "mend")...)
			checkTold(t, in, append(fallen, "sync")...)
			checkTold(t, want+in, append(fallen, "see", "mend")...)
		}
	}
	// What the elder one has at a place, and the newer one not, goes first.
	checkTold(t, "a1 0:1 5:2\nfiles - - - - ? 2 journal\na2 4:4 5:3\nfiles - - - - 4 3\n", "pub a1 0:1 5:2", "sync", "inst a", "pub a2 4:4 5:3", "sync", "fall a 2", "see", "mend")
}

// P100
func TestLinesOfNothing(t *testing.T) {
	checkTold(t, nothingTold)
	checkTold(t, "fine\n"+nothingTold, "why")
	checkTold(t, "fine\n"+nothingTold, "sync", "why")
	checkTold(t, "fine\n"+nothingTold, "pub a1 b1", "why")
	checkTold(t, nothingTold+nothingTold, "see")
	checkTold(t, nothingTold+"fine\n"+nothingTold+nothingTold, "see", "why", "see")
	for _, line := range []string{"index", "tick", "sync", "mend", "inst a", "inst", "fall a 3", "fall a", "fall"} {
		checkTold(t, nothingTold, line)
		checkTold(t, nothingTold, line, line)
		checkTold(t, nothingTold, "sync", line)
	}
	// Nobody brought anything: that it was published, and that an index tells of it, is not enough.
	for _, p := range lonePkgs() {
		name := letter(p.Name)
		checkTold(t, "fine\n"+nothingTold, "pub "+wantText(p), "inst "+name, "index", "inst "+name, "fall "+name+" 1", "why", "mend")
	}
	// What was published behind that which was brought is not kept yet.
	checkTold(t, "fine\n"+nothingTold, "sync", "pub a1 0:1", "index", "inst a", "why")
}

// P103
func TestLinesPutInNewer(t *testing.T) {
	lists := fileLists(0, 9)
	for name := 1; name <= 4; name++ {
		for i, files := range lists {
			elder := impl.Pkg{Name: name, Ver: 1 + i%4, Files: files}
			for j, more := range lists {
				if (i+j+name)%7 > 0 {
					continue
				}
				newer := impl.Pkg{Name: name, Ver: elder.Ver + 1 + j%(5-elder.Ver), Files: more}
				put := []string{"sync", "inst " + letter(name)}
				first, second := append([]string{"pub " + wantText(elder)}, put...), append([]string{"pub " + wantText(newer)}, put...)
				checkTold(t, toldIn(newer), append(first, second...)...)
				checkTold(t, toldIn(elder)+toldIn(newer), slices.Concat(first, []string{"see"}, second)...)
				// An elder one that is published later stays out.
				checkTold(t, toldIn(newer), append(second, first...)...)
				// A newer one that is published, but not brought, stays out, too.
				checkTold(t, toldIn(elder), slices.Concat(first, second[:1], put[1:])...)
			}
		}
	}
	checkTold(t, "a1 0:1 1:2\nfiles 1 2 - - - -\na3 1:5 2:6\nfiles - 5 6 - - -\n", "pub a1 0:1 1:2", "sync", "inst a", "see", "pub a3 1:5 2:6", "sync", "inst a")
	// A fall while it is put in leaves the newer one to be in.
	checkTold(t, "a1 0:1 1:2\nfiles ? 2 - - - - journal\na3 1:5 2:6\nfiles - 5 6 - - -\n", "pub a1 0:1 1:2", "sync", "fall a 9", "pub a3 1:5 2:6", "sync", "fall a 1", "see", "mend")
}

// P104
func TestLinesOfOnePlace(t *testing.T) {
	for name := 1; name <= 4; name++ {
		for other := name + 1; other <= 4; other++ {
			for path := range 6 {
				p := impl.Pkg{Name: name, Ver: 1 + path%5, Files: []impl.File{{Path: path, Data: 1}}}
				q := impl.Pkg{Name: other, Ver: 1 + (path+name)%5, Files: []impl.File{{Path: path, Data: 1 + path%2}}}
				why := fmt.Sprintf("%s%d and %s%d at %d\n", letter(other), q.Ver, letter(name), p.Ver, path)
				head := []string{"pub " + wantText(q), "pub " + wantText(p), "sync"}
				checkTold(t, why+toldIn(p), append(head, "inst "+letter(name), "inst "+letter(other), "why")...)
				checkTold(t, why+toldIn(q), append(head, "why", "inst "+letter(other), "inst "+letter(name))...)
				checkTold(t, toldIn(q), append(head, "fall "+letter(other)+" 1", "mend", "fall "+letter(name)+" 1", "mend")...)
			}
		}
	}
	checkTold(t, "b1 and a1 at 0\nb1 0:2\nfiles 2 - - - - -\n", "pub a1 0:1", "pub b1 0:2", "sync", "inst b", "inst a", "why")
	// A newer one that is elsewhere makes room.
	checkTold(t, "a2 5:1\nb1 0:2\nfiles 2 - - - - 1\n", "pub a1 0:1", "pub b1 0:2", "sync", "inst a", "inst b", "pub a2 5:1", "sync", "inst b")
}

// P105: an index counts as long as 6 times, and at the last one, too.
func TestLinesOfTime(t *testing.T) {
	in := "a1 0:1\nfiles 1 - - - - -\n"
	for now := range 61 {
		late := repeated("tick", now)
		want := in
		if now > 6 {
			want = nothingTold
		}
		checkTold(t, want, slices.Concat([]string{"pub a1 0:1", "sync"}, late, []string{"inst a"})...)
		checkTold(t, in, slices.Concat([]string{"pub a1 0:1", "sync"}, late, []string{"inst a", "sync", "inst a"})...)
		checkTold(t, in, slices.Concat([]string{"pub a1 0:1"}, late, []string{"sync", "inst a"})...)
		checkTold(t, want, slices.Concat([]string{"pub a1 0:1", "sync"}, late, []string{"index", "inst a"})...)
	}
	// At the end of time an index counts on and on.
	for now := 50; now <= 60; now++ {
		want := in
		if now < 54 {
			want = nothingTold
		}
		checkTold(t, want, slices.Concat([]string{"pub a1 0:1"}, repeated("tick", now), []string{"sync"}, repeated("tick", 30), []string{"inst a"})...)
	}
	// Who fell mends at any time, what is in stays, and no fall comes to what is not begun.
	seven := repeated("tick", 7)
	checkTold(t, "files ? - - - - - journal\n"+in, slices.Concat([]string{"pub a1 0:1", "sync", "fall a 1", "see"}, seven, []string{"mend"})...)
	checkTold(t, in, slices.Concat([]string{"pub a1 0:1", "sync", "inst a", "pub b1 1:1"}, seven, []string{"inst b"})...)
	checkTold(t, nothingTold, slices.Concat([]string{"pub a1 0:1", "sync"}, seven, []string{"fall a 1"})...)
	checkTold(t, "b1 lacks c1\n"+nothingTold, slices.Concat([]string{"pub b1 c1", "sync"}, seven, []string{"inst b", "why"})...)
}

// With a journal there nothing is put in, wherever it fell, but mended.
func TestLinesPutInBehindAFall(t *testing.T) {
	head := []string{"pub a1 0:1", "pub b1 1:2 2:3", "sync"}
	for n := range 8 {
		fallen := append(head, fmt.Sprint("fall b ", n))
		was := checkRun(t, lines(fallen...))
		for _, line := range []string{"inst a", "fall a 1", "inst b", "fall b 0", "fall a 9", "tick", "index"} {
			got := checkRun(t, lines(append(fallen, line)...))
			if strings.HasSuffix(was, " journal\n") && got != was {
				t.Errorf("behind a fall at %d %q tells %q, not %q", n, line, got, was)
			}
		}
		got := checkRun(t, lines(append(fallen, "mend", "inst a")...))
		want := toldIn(readAll(t, "a1 0:1", "b1 1:2 2:3")...)
		if n == 0 {
			want = toldIn(readAll(t, "a1 0:1")...)
		}
		if got != want {
			t.Errorf("behind a fall at %d, and mend, inst tells %q, want %q", n, got, want)
		}
	}
}

// Just an index that is the 30th at most comes; who was brought it keeps what it tells of.
func TestLinesOfManyIndexes(t *testing.T) {
	in := "a1 0:1\nfiles 1 - - - - -\n"
	for n := 27; n <= 34; n++ {
		want := in
		if n >= 30 {
			want = nothingTold
		}
		checkTold(t, want, append(repeated("index", n), "pub a1 0:1", "sync", "inst a")...)
		checkTold(t, want, append(append(repeated("sync", n), "pub a1 0:1"), "sync", "inst a")...)
		checkTold(t, in, append(append([]string{"pub a1 0:1"}, repeated("index", n)...), "sync", "inst a")...)
		mixed := append(repeated("index", n), "tick", "tick", "tick", "tick", "tick", "tick", "tick", "pub a1 0:1", "sync", "sync", "inst a")
		checkTold(t, want, mixed...)
	}
	// Without a place for one more, the index that is there counts no more in the end.
	late := append(append([]string{"pub a1 0:1"}, repeated("index", 30)...), repeated("tick", 7)...)
	checkTold(t, nothingTold, append(late, "sync", "inst a")...)
}

func TestLinesOfWhy(t *testing.T) {
	checkTold(t, "a2 beside a1\nb1 lacks c2\nb1 and a1 at 0\n"+nothingTold, "pub a1 0:1", "pub a2 1:1", "pub b1 0:3 c2", "sync", "why")
	checkTold(t, "fine\n"+nothingTold, "pub a1 0:1", "pub b1 1:3 a1", "sync", "why")
	checkTold(t, "a1 lacks d5\nfine\n"+nothingTold, "pub a1 d5", "sync", "why", "pub d5", "sync", "why")
	// It tells of what is kept, not of what is in, nor of what was published.
	checkTold(t, "fine\na2 beside a1\na1\n"+nothingTold, "pub a1", "sync", "inst a", "pub a2", "why", "sync", "why")
}
