package tests

import (
	"fmt"
	"strings"
	"testing"

	"loop.example/purser/impl"
)

// P100: what is no first word is told as what, the beginning of one and one with more behind it too.
func TestRunOfFirstWords(t *testing.T) {
	told := map[string]string{"see": nothingTold, "why": "fine\n", "pub": whatTold}
	for _, word := range firstWords {
		checkTold(t, told[word]+nothingTold, word)
		for n := range word {
			checkTold(t, whatTold+nothingTold, word[:n])
			checkTold(t, whatTold+nothingTold, word[n+1:])
			checkTold(t, whatTold+nothingTold, word[:n]+strings.ToUpper(word[n:]))
			checkTold(t, whatTold+nothingTold, word[:n]+"q "+word[n:]+" "+word)
		}
		for _, other := range firstWords {
			checkTold(t, whatTold+nothingTold, word+other)
		}
		checkTold(t, whatTold+nothingTold, word+"1")
		checkTold(t, whatTold+nothingTold, word+"\r")
		checkTold(t, whatTold+nothingTold, word+"\t")
	}
	for _, none := range []string{"", " ", "    ", "what", "root", "bring", "too long", "files", "fine", "\r", "\t", "\v", "\x00", "\x80", "\xff", "é", "\u00a0", "\u2003see", "\u00a0see", "\tsee", "-", "0", "1 see"} {
		checkTold(t, whatTold+nothingTold, none)
	}
}

// Of each first word each byte is changed to each other one, left out, and put in.
func TestRunOfChangedWords(t *testing.T) {
	head := lines("pub a1 0:1", "sync", "fall a 1")
	for _, line := range []string{"pub a2 1:2", "index", "tick", "sync", "inst a", "fall a 0", "mend", "see", "why"} {
		for at := range len(line) + 1 {
			for b := range 256 {
				put := line[:at] + string([]byte{byte(b)}) + line[at:]
				checkRun(t, head+put+"\n")
				if at < len(line) {
					checkRun(t, head+line[:at]+put[at:at+1]+line[at+1:]+"\n")
				}
			}
		}
	}
}

// Blanks ahead of, between and behind words do not count, nor do words too many.
func TestRunOfBlanks(t *testing.T) {
	head := lines("pub a1 0:1 1:2", "pub a2 3:3", "tick", "sync")
	for _, words := range [][]string{{"index"}, {"tick"}, {"sync"}, {"mend"}, {"see"}, {"why"}, {"inst", "a"}, {"fall", "a", "1"}, {"no"}} {
		want := checkRun(t, head+strings.Join(words, " ")+"\n")
		for _, ahead := range []string{"", " ", "   "} {
			for _, between := range []string{" ", "  ", "     "} {
				for _, behind := range []string{"", " ", "  ", strings.Repeat(" ", 300)} {
					if got := checkRun(t, head+ahead+strings.Join(words, between)+behind+"\n"); got != want {
						t.Errorf("of %q with blanks LinesRun tells %q, want %q", words, got, want)
					}
				}
			}
		}
		if len(words) == 1 {
			words = append(words, "x", "y")
		}
		if len(words) == 2 {
			words = append(words, "7")
		}
		for _, more := range []string{" 1", " a", " a 1", " see", " tick sync", strings.Repeat(" x", 200), " \xff\x00\r"} {
			if got := checkRun(t, head+strings.Join(words, " ")+more+"\n"); got != want {
				t.Errorf("of %q with words too many LinesRun tells %q, want %q", words, got, want)
			}
		}
	}
	// A tab, a carriage return, and a wide blank are no blanks.
	for _, other := range []string{"\t", "\r", "\v", "\u00a0", "\u2003", "\x00", "\u0085"} {
		checkTold(t, "what\nfiles - - - - - -\n", "pub a1 0:1", "sync", "inst"+other+"a")
		checkTold(t, "files - - - - - -\n", "pub a1 0:1", "sync", "inst a"+other)
		checkTold(t, "files - - - - - -\n", "pub a1 0:1", "sync", "fall a 9"+other)
		checkTold(t, "files - - - - - -\n", "pub a1 0:1", "sync", "inst "+other+" a")
	}
}

func TestRunOfPub(t *testing.T) {
	put := []string{"sync", "inst a"}
	for _, text := range []string{"a1", "a5", "a1 0:0", "a1 0:9 5:9", "a3 1:1"} {
		in := wantRun(lines(append([]string{"pub " + text}, put...)...))
		checkTold(t, in, append([]string{"pub " + text}, put...)...)
		for _, none := range []string{
			"pub", "pub ", "pub  ", "pub  " + text, " pub " + text, "  pub " + text, "   pub " + text, "    pub " + text, "pub " + text + " ", "pub " + text + "  ", "pub " + text + "x",
			"pub " + text + "0", "pub " + text + " x", "pub " + text + "\r", "pub " + text + "\x00", "pub\t" + text, "pub" + text, "pubs" + text, "Pub " + text,
			"pub " + strings.ToUpper(text), "pub " + text[:1], "pub " + text[1:], "pub pub " + text, "pub " + text + " a1", "pub " + text + strings.Repeat(" ", 30), "pub e1", "pub a6", "pub a0", "pub 1", "pub a01", "pub a+1",
		} {
			checkTold(t, "what\nfiles - - - - - -\n", append([]string{none}, put...)...)
			checkTold(t, whatTold+in, append([]string{"pub " + text, none}, put...)...)
		}
	}
	// What is published twice is a line nevertheless, and so is one for which there is no room.
	checkTold(t, "a1 0:1\nfiles 1 - - - - -\n", "pub a1 0:1", "pub a1 0:2", "pub a1 0:1", "sync", "inst a")
	many := []string{"pub b1", "pub b2", "pub b3", "pub b4", "pub b5", "pub c1", "pub c2"}
	checkTold(t, "a2 0:2\nfiles 2 - - - - -\n", append(many, "pub a2 0:2", "sync", "inst a")...)
	checkTold(t, "b5\nfiles - - - - - -\n", append(many, "pub c3", "pub a2 0:2", "sync", "inst a", "inst b")...)
}

// Each package that there is, as far as shapes go, and each of its texts with a byte changed.
func TestRunOfPackages(t *testing.T) {
	for i, p := range somePkgs() {
		text, name := wantText(p), string(rune('a'+p.Name-1))
		checkRun(t, lines("pub "+text, "sync", "why", "inst "+name))
		for at := range text {
			for _, b := range []byte{' ', '0', '1', '5', '6', '9', ':', 'a', 'd', 'e', 'A', '-', 0, 128, '\r', byte(i)} {
				checkRun(t, lines("pub "+text[:at]+string([]byte{b})+text[at+1:], "sync", "why", "inst "+name))
			}
		}
	}
}

func TestRunOfNames(t *testing.T) {
	head := []string{"pub a1 0:1", "pub b1 1:2", "pub c1 2:3", "pub d1 3:4", "sync"}
	in := map[string]string{"a": "a1 0:1\nfiles 1 - - - - -\n", "b": "b1 1:2\nfiles - 2 - - - -\n", "c": "c1 2:3\nfiles - - 3 - - -\n", "d": "d1 3:4\nfiles - - - 4 - -\n"}
	torn := map[string]string{"a": "files ? - - - - - journal\n", "b": "files - ? - - - - journal\n", "c": "files - - ? - - - journal\n", "d": "files - - - ? - - journal\n"}
	for name := range in {
		checkTold(t, in[name], append(head, "inst "+name)...)
		checkTold(t, in[name], append(head, "fall "+name+" 4")...)
		checkTold(t, torn[name], append(head, "fall "+name+" 1")...)
	}
	names := []string{"", "e", "f", "z", "A", "B", "D", "Z", "ab", "aa", "a1", "aA", "a\x00", "a\r", "0", "1", "4", "-", "é", "ａ", "α", "a,", "inst", "abcd", "\xff\xfe"}
	for b := range 256 {
		if b < 'a' || 'd' < b {
			names = append(names, string([]byte{byte(b)}))
		}
	}
	for _, name := range names {
		if name == " " || name == "\n" {
			continue
		}
		checkTold(t, nothingTold, append(head, "inst "+name)...)
		checkTold(t, nothingTold, append(head, "fall "+name+" 1")...)
		checkTold(t, nothingTold, append(head, "fall "+name)...)
	}
	// Without a name, what is next is taken for it.
	checkTold(t, nothingTold, append(head, "fall 1 a")...)
	checkTold(t, nothingTold, append(head, "inst  1 a")...)
}

func TestRunOfFigures(t *testing.T) {
	head := []string{"pub a1 0:1 2:3", "sync"}
	behind := []string{
		nothingTold, "files ? - - - - - journal\n", "files 1 - ? - - - journal\n", "files 1 - 3 - - - journal\n", "a1 0:1 2:3\nfiles 1 - 3 - - - journal\n", "a1 0:1 2:3\nfiles 1 - 3 - - -\n",
	}
	for n := range 10000 {
		want := behind[min(n, 5)]
		for _, form := range []string{"%d", "%02d", "%03d", "%04d"} {
			if figures := fmt.Sprintf(form, n); n < 20 || n%97 == 0 {
				checkTold(t, want, append(head, "fall a "+figures)...)
			} else if got := impl.LinesRun(lines(append(head, "fall a "+figures)...)); form == "%d" && got != want {
				t.Errorf("behind a fall at %d LinesRun tells %q", n, got)
			}
		}
	}
	none := []string{
		"", " ", "-1", "+1", "-0", "+0", "00000", "00001", "10000", "99999", "123456789", "18446744073709551617", "4294967297", "1.0", "1,", "1e1", "0x1", "0b1", "1_0", "_1", "a", "1a", "a1", "1:1",
		"?", "--1", "1-", "1+", "١", "１", "1\r", "\r1", "1\x00", "\x001", "\xff", "1\xff", "\t1", "999a", "a999", "9a99", "0.", ".0", "01234",
	}
	for b := range 256 {
		if b < '0' || '9' < b {
			// All of these are cut from a number that would be one without them, but for blanks and newlines.
			none = append(none, string([]byte{byte(b)}))
			if b != ' ' && b != '\n' {
				none = append(none, "2"+string([]byte{byte(b)}), string([]byte{byte(b)})+"2", "2"+string([]byte{byte(b)})+"2")
			}
		}
	}
	for _, figures := range none {
		want := nothingTold
		if figures == "\n" {
			want = whatTold + nothingTold
		}
		checkTold(t, want, append(head, "fall a "+figures)...)
	}
	// A number behind words too many is none.
	checkTold(t, nothingTold, append(head, "fall a x 1")...)
	checkTold(t, behind[1], append(head, "fall a 1 x")...)
	checkTold(t, behind[5], append(head, "inst a 1")...)
}
