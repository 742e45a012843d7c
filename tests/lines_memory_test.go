package tests

import (
	"math/rand"
	"runtime"
	"strings"
	"sync"
	"testing"
	"time"

	"loop.example/purser/impl"
)

// callOthers calls functions of other chapters, and runs other lines, so that what one of them kept would show.
func callOthers(t *testing.T, r *rand.Rand, all []string) {
	t.Helper()
	p := impl.Pkg{Name: 1 + r.Intn(4), Ver: 1 + r.Intn(5), Files: []impl.File{{Path: r.Intn(6), Data: r.Intn(10)}}}
	w, ok := impl.WorldPlay(twoOfThree(1), []int{3}, []impl.Event{publish(p), index()})
	w = impl.WorldSync(w)
	w = impl.WorldDo(w, fallIn(p.Name, fall{r.Intn(4), true}))
	if read, isRead := impl.PkgRead(impl.PkgText(p)); !ok || !isRead || !samePkg(read, p) || !impl.WorldOk(w) || !strings.HasSuffix(impl.PlanWhy(w.Store), "\n") {
		t.Errorf("%v cannot be played with", p)
	}
	impl.LinesRun(all[r.Intn(len(all))])
	impl.LinesRun("pub a1 0:1\nsync\nfall a 1\nno\n")
	impl.LinesRun(strings.Repeat("sync\n", 200))
}

func TestLinesAnswerTheSameEachTime(t *testing.T) {
	r, all := rand.New(rand.NewSource(105)), texts()
	for i, text := range all {
		want := wantRun(text)
		for range 2 {
			if i%4 == 0 {
				callOthers(t, r, all)
			}
			if got := impl.LinesRun(strings.Clone(text)); got != want {
				t.Errorf("LinesRun(%q) = %q, want %q", text, got, want)
			}
		}
	}
}

func TestLinesKeepNothingBetweenCalls(t *testing.T) {
	all := texts()
	want := make([]string, len(all))
	for i, text := range all {
		want[i] = wantRun(text)
	}
	var group sync.WaitGroup
	for worker := range 4 {
		group.Go(func() {
			for i := range all {
				place := (i*7 + worker*len(all)/4) % len(all)
				if got := impl.LinesRun(all[place]); got != want[place] {
					t.Errorf("LinesRun(%q) = %q, want %q", all[place], got, want[place])
				}
			}
		})
	}
	group.Wait()
}

// What LinesRun asks of others is joined, and what a line throws stays in that line.
func TestLinesLeaveNobodyBehind(t *testing.T) {
	before := runtime.NumGoroutine()
	for _, text := range texts() {
		impl.LinesRun(text)
	}
	for range 200 {
		if runtime.NumGoroutine() <= before {
			return
		}
		time.Sleep(10 * time.Millisecond)
	}
	t.Errorf("there are %d goroutines; there were %d", runtime.NumGoroutine(), before)
}

// Bytes of all kinds, among words and without them: none of them makes LinesRun panic, and all is told as the document says.
func TestLinesOfAnyBytes(t *testing.T) {
	r := rand.New(rand.NewSource(41))
	parts := []string{" ", "\n", "\n", "\r\n", "\x00", "\xff", "\x80", "é", "\u00a0", "a", "d", "0", "1", "9999", ":", "a1", "b2 a1", "0:1", "pub", "pub ", "pub a1 0:1\n", "sync\n", "inst ", "fall ", "fall a 1\n", "mend\n", "see\n"}
	for range 4000 {
		text := ""
		for range r.Intn(60) {
			if r.Intn(6) == 0 {
				text += string([]byte{byte(r.Intn(256))})
			}
			text += append(parts, firstWords...)[r.Intn(len(parts)+len(firstWords))]
		}
		checkRun(t, text)
	}
}
