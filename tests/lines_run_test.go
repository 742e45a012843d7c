package tests

import (
	"fmt"
	"slices"
	"strings"
	"testing"

	"loop.example/purser/impl"
)

func TestRunByHand(t *testing.T) {
	checkTold(t, "files - - ? - - - journal\nwhat\na1 2:5\nfiles - - 5 - - -\n", "pub a1 2:5", "sync", "fall a 1", "see", "mend", "hello")
	checkTold(t, "fine\nwhat\nb2 lacks a1\nfiles - - - - - -\na1 1:7\nb2 0:0 a1\nfiles 0 7 - - - -\n",
		"why", "pub b2 a1 0:0", "pub b2 0:0 a1", "sync", "why", "inst b", "see", "pub a1 1:7", "sync", "inst b")
	// The elder one of one place is in, the newer journal is there, one place is whole, one torn, and others have nothing.
	checkTold(t, "a1 0:1\nfiles 1 - 5 ? - - journal\na1 0:1\nb1 2:5 3:4\nfiles 1 - 5 4 - -\n",
		"pub a1 0:1", "sync", "inst a", "pub b1 2:5 3:4", "sync", "fall b 2", "see", "mend")
}

func TestRunOfTexts(t *testing.T) {
	for _, text := range texts() {
		checkRun(t, text)
	}
}

// P97
func TestRunTellsLines(t *testing.T) {
	for _, text := range append(texts(), oddTexts()...) {
		got := checkRun(t, text)
		if len(text) > linesTop {
			if got != tooLong {
				t.Errorf("of %d bytes LinesRun tells %q", len(text), got)
			}
			continue
		}
		list := linesOf(got)
		if len(list) == 0 || !strings.HasSuffix(got, "\n") || !strings.HasPrefix(lastOf(list), "files") || slices.Contains(list, "") {
			t.Errorf("of %q LinesRun tells %q", text, got)
		}
	}
}

// oddTexts are of bytes of all kinds, short and long, many of them too long.
func oddTexts() []string {
	out := []string{}
	for _, size := range []int{0, 1, 2, 599, 600, 601, 602, 1024, 6000, 1 << 16} {
		for _, part := range []string{"a", " ", "\n", "\x00", "\r\n", "\xff", "é", "see\n", "tick\n", "no\n", "pub a1\n"} {
			out = append(out, strings.Repeat(part, size/len(part)+1)[:size])
		}
	}
	return out
}

// Of 600 bytes all lines are done, of one more none.
func TestRunOfManyBytes(t *testing.T) {
	for _, head := range []string{"", "see\n", "pub a1 0:1\nsync\ninst a\n"} {
		for size := 590; size <= 610; size++ {
			blanks := head + strings.Repeat(" ", size-len(head)-4) + "see\n"
			newlines := head + strings.Repeat("\n", size-len(head))
			behind := head + strings.Repeat("x", size-len(head))
			for _, text := range []string{blanks, newlines, behind} {
				if got := checkRun(t, text); len(text) != size || (got == tooLong) != (size > linesTop) {
					t.Errorf("of %d bytes LinesRun tells %q", size, got)
				}
			}
		}
	}
	if got := impl.LinesRun(strings.Repeat("see\n", 150)); got != strings.Repeat(nothingTold, 151) {
		t.Errorf("150 times see is told %q", got)
	}
	// It is bytes that count: of two bytes a letter there are no more than 300.
	if got := checkRun(t, strings.Repeat("é", 300)); got != nothingTold {
		t.Errorf("300 letters are told %q", got)
	}
	if got := checkRun(t, strings.Repeat("é", 301)); got != tooLong {
		t.Errorf("301 letters are told %q", got)
	}
}

// P100: what is behind the last newline does not count, whatever it is.
func TestRunOfNoLines(t *testing.T) {
	for _, tail := range append([]string{"", " ", "no", "see ", "pub a1", "\r", "\x00", "\xff", "inst a", "fall a 1"}, firstWords...) {
		if got := checkRun(t, tail); got != nothingTold {
			t.Errorf("of %q LinesRun tells %q", tail, got)
		}
		head := lines("pub a1 0:1", "sync", "no", "fall a 1")
		if got := checkRun(t, head+tail); got != checkRun(t, head) || got != "what\nfiles ? - - - - - journal\n" {
			t.Errorf("with %q behind the last newline LinesRun tells %q", tail, got)
		}
	}
}

// P101
func TestRunAndSee(t *testing.T) {
	for _, text := range textsWithRoom() {
		now := runOf(linesOf(text)...)
		was, end := checkRun(t, text), now.seen()
		for line, told := range map[string]string{"see": end, "why": wantWhy(now.world.Store), "what": whatTold, "": whatTold, "pub": whatTold, " see  see": end} {
			got := checkRun(t, text+line+"\n")
			if !strings.HasSuffix(was, end) || got != strings.TrimSuffix(was, end)+told+end {
				t.Errorf("of %q and %q LinesRun tells %q, of the first alone %q", text, line, got, was)
			}
		}
		if got := checkRun(t, text+"see\n"); got != was+end {
			t.Errorf("of %q and see LinesRun tells %q", text, got)
		}
	}
}

// P102
func TestRunAndMend(t *testing.T) {
	journals := 0
	for _, text := range textsWithRoom() {
		once, twice := checkRun(t, text+"mend\n"), checkRun(t, text+"mend\nmend\n")
		if once != twice || strings.HasSuffix(once, "journal\n") {
			t.Errorf("of %q and mend LinesRun tells %q, of mend twice %q", text, once, twice)
		}
		if strings.HasSuffix(checkRun(t, text), "journal\n") {
			journals++
		}
	}
	if journals < 20 {
		t.Errorf("there were but %d journals to mend", journals)
	}
}

// A line that is none changes nothing, and those behind it are done.
func TestRunGoesOnBehindNoLine(t *testing.T) {
	list := []string{"pub a1 0:1", "pub b1 1:2 a1", "sync", "fall b 2", "see", "mend", "why"}
	was := checkRun(t, lines(list...))
	for _, none := range []string{"", " ", "no", "pub", "pub ", "pub a", "sync1", "Sync", "\x00", "\xff"} {
		got := checkRun(t, lines(none)+strings.Join(list, "\n"+none+"\n")+"\n"+none+"\n")
		if strings.ReplaceAll(got, whatTold, "") != was || strings.Count(got, whatTold) != len(list)+1 {
			t.Errorf("with %q between LinesRun tells %q", none, got)
		}
		for place := range len(list) + 1 {
			told := checkRun(t, lines(slices.Insert(slices.Clone(list), place, none)...))
			if strings.Replace(told, whatTold, "", 1) != was {
				t.Errorf("with %q at %d LinesRun tells %q", none, place, told)
			}
		}
	}
}

// Of each two, one behind the other, and of each three behind packages that are published.
func TestRunOfFewLines(t *testing.T) {
	few := []string{"pub a1 0:1", "pub a2 0:2 b1", "pub b1 1:3", "index", "tick", "sync", "inst a", "fall a 1", "fall a 2", "fall b 0", "mend", "see", "why", "no"}
	for _, first := range few {
		checkRun(t, lines(first))
		for _, second := range few {
			checkRun(t, lines(first, second))
			for _, third := range few {
				checkRun(t, lines(few[0], few[2], first, second, third))
				checkRun(t, lines(few[0], few[1], few[2], "sync", first, second, third))
			}
		}
	}
}

func TestRunOfFullDisk(t *testing.T) {
	list := []string{"pub a1 0:0 5:9", "pub b2 1:1 2:2", "pub c1 3:3 a1", "pub d5 4:4 b1 c1", "sync"}
	full := "a1 0:0 5:9\nb2 1:1 2:2\nc1 3:3 a1\nd5 4:4 b1 c1\n"
	checkTold(t, full+"files 0 1 2 3 4 9\n", append(list, "inst d")...)
	files := []string{"-", "-", "-", "-", "-", "-"}
	for n := range 12 {
		want, db := slices.Clone(files), ""
		for path := range min(max(n-1, 0), 6) {
			want[path] = fmt.Sprint([]int{0, 1, 2, 3, 4, 9}[path])
		}
		if 1 <= n && n <= 6 {
			want[n-1] = "?"
		}
		if n >= 8 {
			db = full
		}
		journal := " journal\n"
		if n == 0 || n > 8 {
			journal = "\n"
		}
		checkTold(t, db+"files "+strings.Join(want, " ")+journal, append(list, fmt.Sprint("fall d ", n))...)
		mended := full + "files 0 1 2 3 4 9\n"
		if n == 0 {
			mended = nothingTold
		}
		checkTold(t, mended, append(list, fmt.Sprint("fall d ", n), "mend")...)
	}
}

// Many lines of one kind do no more than they say: no index, no time, and nothing that is kept is among what others do.
func TestRunOfManyLinesOfOneKind(t *testing.T) {
	in := "a1 0:1\nfiles 1 - - - - -\n"
	for _, line := range []string{"pub b1", "pub c2 b1", "inst a", "inst b", "fall a 0", "fall b 0", "mend", "pub", "no"} {
		told := ""
		if line == "pub" || line == "no" {
			told = strings.Repeat(whatTold, 40)
		}
		many := repeated(line, 40)
		checkTold(t, told+in, append(many, "pub a1 0:1", "sync", "inst a")...)
		checkTold(t, told+nothingTold, append(append([]string{"pub a1 0:1", "index"}, many...), "inst a")...)
		if line != "inst a" {
			checkTold(t, told+in, append(append([]string{"pub a1 0:1", "sync"}, many...), "inst a")...)
		}
	}
	for _, line := range []string{"see", "why"} {
		got := checkRun(t, lines(append(repeated(line, 40), "pub a1 0:1", "sync", "inst a")...))
		if !strings.HasSuffix(got, in) {
			t.Errorf("behind 40 times %q LinesRun tells %q", line, got)
		}
	}
}
