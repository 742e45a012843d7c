package tests

import (
	"fmt"
	"math/rand"
	"regexp"
	"slices"
	"strings"
	"testing"

	"loop.example/purser/impl"
)

// linesTop is how many bytes a text of lines has at most, and tooLong what is told of one with more.
const (
	linesTop = 600
	tooLong  = "too long\n"
	whatTold = "what\n"
)

// nothingTold is what is told of a disk on which nothing is.
const nothingTold = "files - - - - - -\n"

// What words are, what NAME is, and what N is, as the document's words give it.
var (
	wordForm    = regexp.MustCompile(`[^ ]+`)
	letterForm  = regexp.MustCompile(`\A[a-z]\z`)
	figuresForm = regexp.MustCompile(`\A[0-9]{1,4}\z`)
)

// firstWords are those of lines that are some.
var firstWords = []string{"pub", "index", "tick", "sync", "inst", "fall", "mend", "see", "why"}

// lines is a text, each of a list a line.
func lines(list ...string) string {
	return strings.Join(append(list, ""), "\n")
}

// linesOf are the lines of a text; what is behind the last newline is none.
func linesOf(text string) []string {
	all := strings.Split(text, "\n")
	return all[:len(all)-1]
}

// run is, without the program, a world behind lines, and what they told.
type run struct {
	world impl.World
	told  string
}

// runOf is, without the program, what is there behind lines.
func runOf(list ...string) run {
	w, _ := wantNew(twoOfThree(1), []int{3})
	return run{world: w}.then(list...)
}

func (r run) then(list ...string) run {
	for _, line := range list {
		r = r.thenLine(line)
	}
	return r
}

func (r run) thenLine(line string) run {
	words := append(wordForm.FindAllString(line, -1), "", "", "")
	switch words[0] {
	case "pub":
		if len(line) < 4 || !isPkgText(line[4:]) {
			r.told += whatTold
			return r
		}
		r.world = worldBehind(r.world, publish(handPkg(line[4:])))
	case "index":
		r.world = worldBehind(r.world, index())
	case "tick":
		r.world = behindAll(r.world, tick(1))
	case "sync":
		r.world = wantSync(r.world)
	case "inst":
		r.world = worldBehind(r.world, putIn(wantName(words[1])))
	case "fall":
		r.world = worldBehind(r.world, fallIn(wantName(words[1]), fall{wantFigures(words[2]), true}))
	case "mend":
		r.world = worldBehind(r.world, mendAll())
	case "see":
		r.told += r.seen()
	case "why":
		r.told += wantWhy(r.world.Store)
	default:
		r.told += whatTold
	}
	return r
}

// wantName is, without the program, the name that a word is.
func wantName(word string) int {
	if !letterForm.MatchString(word) {
		return 0
	}
	return strings.Index("abcdefghijklmnopqrstuvwxyz", word) + 1
}

// wantFigures is, without the program, the number that a word is.
func wantFigures(word string) int {
	n := -1
	if figuresForm.MatchString(word) {
		fmt.Sscanf(word, "%d", &n)
	}
	return n
}

// seen is, without the program, what is told of what is on the disk.
func (r run) seen() string {
	out := ""
	for _, p := range r.world.Disk.Db {
		out += wantText(p) + "\n"
	}
	return out + filesTold(r.world.Disk.Files, r.world.Disk.Has)
}

// filesTold is, without the program, the last line of what is told of a disk.
func filesTold(files []int, has bool) string {
	out := "files"
	for _, data := range files {
		out += " " + map[int]string{dataNone: "-", dataTorn: "?"}[data]
		if data >= 0 {
			out += fmt.Sprint(data)
		}
	}
	if has {
		out += " journal"
	}
	return out + "\n"
}

// wantRun is, without the program, what LinesRun answers.
func wantRun(text string) string {
	if len(text) > linesTop {
		return tooLong
	}
	r := runOf(linesOf(text)...)
	return r.told + r.seen()
}

// handTexts are by hand: of each word, of all that may be on a disk, and at the ends of bounds.
func handTexts() []string {
	out := []string{
		"", "\n", "see", "see\n", "why\n", "tick", "no\nsee\nwhy", "\n\n\n", strings.Repeat("\n", linesTop), strings.Repeat("a", linesTop), strings.Repeat(" ", linesTop-1) + "\n",
		lines(repeated("tick", 120)...), lines(repeated("sync", 120)...), lines(repeated("see", 150)...), lines(repeated("why", 150)...),
		lines("pub a1 0:1", "see", "inst a", "see", "index", "inst a", "see", "sync", "see", "inst a"),
		lines("pub a1 0:1 5:2", "pub b1 1:3 a1", "pub c2 2:4 b1", "pub d5 3:6 4:7 c2", "sync", "inst d", "see", "why", "fall a 1", "mend"),
		lines("pub a1 0:1", "sync", "inst a", "pub b1 2:5 3:4", "sync", "fall b 2", "see", "why", "inst b", "fall b 0", "see"),
		lines("pub a1 0:1", "sync", "inst a", "pub a2 0:2 5:9", "sync", "fall a 3", "see", "sync", "see", "fall a 9999", "fall a 1"),
		lines("pub a1 0:1 b1", "sync", "inst a", "why", "pub b1 1:2", "inst a", "sync", "why", "inst a", "tick", "fall b 2"),
		lines("pub a1 0:1", "pub b1 0:2", "pub c1 0:3 b1", "pub a2 0:4", "sync", "why", "fall a 2", "inst b", "mend", "inst c", "inst b"),
	}
	out = append(out, lines(append(repeated("index", 30), "pub a1 0:1", "sync", "why", "inst a")...))
	out = append(out, lines(append(repeated("index", 31), "sync", "inst a", "index", "see")...))
	out = append(out, lines(append(repeated("index", 29), "pub a1 0:1", "sync", "why", "inst a")...))
	out = append(out, lines(append(repeated("tick", 60), "pub a1 0:1", "sync", "tick", "tick", "inst a")...))
	return out
}

func repeated(line string, times int) []string {
	return slices.Repeat([]string{line}, times)
}

// randomTexts are of random lines, of at most so many bytes as there may be; some of them have more than lines.
func randomTexts(n int) []string {
	r, out := rand.New(rand.NewSource(97)), []string{}
	for range n {
		shelf, size, text, now := smallShelf(r), linesTop-r.Intn(20)*r.Intn(20), "", runOf()
		for {
			line := randomLine(r, now.world, shelf)
			if len(text)+len(line) >= size {
				break
			}
			text, now = text+line+"\n", now.then(line)
		}
		if r.Intn(4) == 0 {
			text += "see"
		}
		out = append(out, text)
	}
	return slices.DeleteFunc(out, func(text string) bool { return len(text) > linesTop })
}

// randomLine is mostly one, and mostly of what is kept, if there is some; at times blanks are put in, or a byte is changed.
func randomLine(r *rand.Rand, w impl.World, shelf []impl.Pkg) string {
	name := string(rune('a' + r.Intn(4)))
	if len(w.Store) > 0 && r.Intn(5) > 0 {
		name = string(rune('a' + w.Store[r.Intn(len(w.Store))].Name - 1))
	}
	line := ""
	switch n := r.Intn(100); {
	case n < 22 || n < 50 && len(w.Pkgs) < 3:
		line = "pub " + wantText(shelf[r.Intn(len(shelf))])
	case n < 34 || n < 60 && len(w.Store) == 0 || n < 60 && w.Now > w.Trust.Index.Until:
		line = "sync"
	case n < 50:
		line = "inst " + name
	case n < 70:
		line = "fall " + name + " " + fmt.Sprint(r.Intn(9))
	case n < 78:
		line = "mend"
	case n < 86:
		return strings.Repeat("tick\n", r.Intn(8)) + "tick"
	default:
		line = append(firstWords, "", " ", "no", "inst a b")[r.Intn(13)]
	}
	return smudged(r, line)
}

// smudged is a line, mostly as it is.
func smudged(r *rand.Rand, line string) string {
	at := r.Intn(len(line) + 1)
	switch n := r.Intn(24); {
	case n < 2:
		return line[:at] + " " + line[at:]
	case n == 2 && at < len(line):
		return line[:at] + string([]byte{byte(r.Intn(256))}) + line[at+1:]
	case n == 3:
		return line + " " + line
	}
	return line
}

// texts are all of them: some by hand, and some random.
func texts() []string {
	return append(handTexts(), randomTexts(400)...)
}

// textsWithRoom are those of lines alone behind which there is room for a few more.
func textsWithRoom() []string {
	out := []string{}
	for _, text := range texts() {
		text = lines(linesOf(text)...)
		if len(text) <= linesTop-12 {
			out = append(out, text)
		}
	}
	return out
}

func TestTextsAreOfAllKinds(t *testing.T) {
	kinds := map[string]int{}
	for _, text := range texts() {
		if len(text) > linesTop {
			t.Errorf("%q is too long", text)
		}
		now := runOf()
		for _, line := range linesOf(text) {
			next := now.then(line)
			word := strings.TrimLeft(line, " ")
			word, _, _ = strings.Cut(word, " ")
			kinds[fmt.Sprintf("%s changes %v, tells %v", word, !sameWorld(now.world, next.world), now.told != next.told)]++
			if word == "pub" || word == "inst" || word == "fall" || word == "mend" || word == "sync" {
				kinds[fmt.Sprintf("%s with a journal %v", word, now.world.Disk.Has)]++
			}
			d := next.world.Disk
			torn := slices.Contains(d.Files, dataTorn)
			full := slices.ContainsFunc(d.Files, func(data int) bool { return data >= 0 })
			kinds[fmt.Sprint("disk ", min(len(d.Db), 3), torn, full, slices.Contains(d.Files, dataNone), d.Has)]++
			kinds[fmt.Sprint("why ", min(strings.Count(wantWhy(next.world.Store), "\n"), 4))]++
			now = next
		}
		kinds[fmt.Sprint("fresh ", now.world.Trust.Has, now.world.Now <= now.world.Trust.Index.Until)]++
		kinds[fmt.Sprint("end ", strings.HasSuffix(text, "\n"))]++
	}
	want := []string{
		"pub changes false, tells true", "see changes false, tells true", "why changes false, tells true", " changes false, tells true", "no changes false, tells true",
		"disk 0 false false true false", "disk 1 false true true false", "disk 2 false true true false", "disk 3 false true false false", "disk 0 true false true true", "disk 0 false true true true",
		"disk 1 true true true true", "disk 2 true true true true", "disk 3 true true true true", "why 1", "why 2", "why 3", "why 4", "fresh true true", "fresh true false", "fresh false false", "end true", "end false",
	}
	for _, word := range []string{"pub", "index", "tick", "inst", "fall", "mend"} {
		want = append(want, word+" changes true, tells false", word+" changes false, tells false")
	}
	for _, word := range []string{"pub", "sync", "inst", "fall", "mend"} {
		want = append(want, word+" with a journal true", word+" with a journal false")
	}
	for _, kind := range want {
		if kinds[kind] == 0 {
			t.Errorf("nothing is of the kind %q", kind)
		}
	}
}

// checkRun runs a text, asks that all is told as the document says, and tells it.
func checkRun(t *testing.T, text string) string {
	t.Helper()
	got := impl.LinesRun(text)
	if want := wantRun(text); got != want {
		t.Errorf("LinesRun(%q) = %q, want %q", text, got, want)
	}
	return got
}

// checkTold runs lines, and asks that just this is told.
func checkTold(t *testing.T, want string, list ...string) {
	t.Helper()
	if got := checkRun(t, lines(list...)); got != want {
		t.Errorf("of %q LinesRun tells %q, want %q", list, got, want)
	}
}
