package tests

import (
	"math/rand"
	"slices"
	"strings"
	"testing"

	"loop.example/purser/impl"
)

func TestTextsByHand(t *testing.T) {
	files := []impl.File{{Path: 0, Data: 5}, {Path: 3, Data: 7}}
	deps := []impl.Dep{{Name: 1, Least: 1}, {Name: 4, Least: 4}}
	for text, want := range map[string]impl.Pkg{
		"a1":               {Name: 1, Ver: 1},
		"d5":               {Name: 4, Ver: 5},
		"b2 0:5":           {Name: 2, Ver: 2, Files: files[:1]},
		"b2 d4":            {Name: 2, Ver: 2, Deps: deps[1:]},
		"b2 0:5 3:7 a1 d4": {Name: 2, Ver: 2, Files: files, Deps: deps},
		"c3 5:9 a1":        {Name: 3, Ver: 3, Files: []impl.File{{Path: 5, Data: 9}}, Deps: deps[:1]},
	} {
		if got := impl.PkgText(want); got != text {
			t.Errorf("PkgText(%v) = %q, want %q", want, got, text)
		}
		if got := mustRead(t, text); !samePkg(got, want) {
			t.Errorf("PkgRead(%q) = %v, want %v", text, got, want)
		}
	}
}

// P1, P3: two packages with one text could not both be read back from it.
func TestEveryPackageIsReadBack(t *testing.T) {
	versions, data := []int{1, 2, 3, 4, 5}, []int{0, 1, 2, 3, 4, 5, 6, 7, 8, 9}
	if testing.Short() {
		versions, data = []int{1, 5}, []int{0, 9}
	}
	count := 0
	eachPkg(versions, data, func(p impl.Pkg) {
		count++
		text := impl.PkgText(p)
		q, ok := impl.PkgRead(text)
		if !ok || !samePkg(p, q) {
			t.Fatalf("PkgRead(%q) = %v, %v; want %v", text, q, ok, p)
		}
	})
	if !testing.Short() && count != 20*1561*91 {
		t.Errorf("went through %d packages", count)
	}
}

// P2
func TestShortTextsOfAnyBytes(t *testing.T) {
	checkRead(t, "")
	for a := 0; a < 256; a++ {
		checkRead(t, string([]byte{byte(a)}))
		for b := 0; b < 256; b++ {
			checkRead(t, string([]byte{byte(a), byte(b)}))
		}
	}
	count := 0
	var grow func(text string)
	grow = func(text string) {
		checkRead(t, text)
		count++
		if len(text) < 7 {
			for _, c := range []byte("ad15 0:") {
				grow(text + string([]byte{c}))
			}
		}
	}
	grow("")
	if count != 960800 {
		t.Errorf("went through %d texts", count)
	}
}

// P2
func TestTextsOfWordsInAnyOrder(t *testing.T) {
	words := []string{"a1", "b5", "c2", "d3", "0:0", "2:9", "5:4", "a0", "e1", "b6", "6:1", "1:10", "-1:1", "1:-1", "", "0:1:2", ":"}
	var grow func(text string, left int)
	grow = func(text string, left int) {
		checkRead(t, text)
		for _, w := range words {
			if left > 0 {
				grow(text+" "+w, left-1)
			}
		}
	}
	for _, w := range words {
		grow(w, 3)
	}
	for _, head := range []string{"a1", "b5"} {
		for _, two := range []string{" 0:0 2:9", " 2:9 5:4", " 5:4 2:9", " 2:9 2:9", " c2 d3", " d3 c2"} {
			grow(head+two, 3)
		}
	}
}

// P2
func TestNumbersAreWrittenOneWay(t *testing.T) {
	for _, s := range []string{
		"a01", "a+1", "a-1", "a1.", "a 1", "a1_", "a0x1", "a1e0", "A1", "aa1", "1a", "1", "11", "a10", "a12", "a99999999999999999999",
		"a1 00:1", "a1 0:01", "a1 +0:1", "a1 -0:1", "a1 0:+1", "a1 0:-0", "a1 0:10", "a1 0:", "a1 :0", "a1 0::1", "a1 0.1", "a1 0;1", "a1 0:1:1",
		"a1 b01", "a1 b+1", "a1 b", "a1 B1", "a1 b1c1", "a1 0:1b1", "a1 0: 1", "a1 0 :1", "a1 0:1,b1", "a1\tb1", "a1\nb1", "a1\n", "\na1", "a1\x00",
		"a1 0:18446744073709551617", "a1 18446744073709551616:0", "a18446744073709551617", "a1 b18446744073709551617", "a4294967297",
		"\u04301", "a\u0661", "a1\u00a0b1", "\xff1", "a1 0\uff1a1", "0:1", "0:1 a1", "a1 b1 0:2", "a1 a1", "a1 1:1 1:1", "a1 b1 b1", "a1 b1 b2",
		"a1 0:1 1:1 2:1", "a1 b1 c1 d1", "a6", "a0", "e1", "`1", "a1 6:1", "a1 b6", "a1 b0", "a1 e1", "a1 `1", "a1 3:7 0:5", "a1 c1 b1",
	} {
		if isPkgText(s) {
			t.Fatalf("%q is no wrong text", s)
		}
		checkNone(t, s)
	}
}

// P2
func TestTextsOfRandomBytes(t *testing.T) {
	r := rand.New(rand.NewSource(1))
	for n := 0; n < 200000; n++ {
		b := make([]byte, r.Intn(40))
		for i := range b {
			b[i] = byte(r.Intn(256))
			if n%2 == 0 {
				b[i] = "abcd12345 0:"[r.Intn(12)]
			}
		}
		checkRead(t, string(b))
	}
}

func TestTextsOf30BytesAndLonger(t *testing.T) {
	longest := "b2 0:5 3:7 a1 d4"
	mustRead(t, longest)
	for _, fill := range []string{" ", "0", "1", " 1:1", " c1", "\x00", "\n"} {
		long := longest + strings.Repeat(fill, 40)
		for _, size := range []int{17, 29, 30, 31, 32, len(long)} {
			if size <= len(long) {
				checkNone(t, long[:size])
			}
		}
	}
	for _, size := range []int{29, 30, 31, 1000, 1 << 20} {
		for _, fill := range []string{"a", "1", " ", "0:1 ", "a1 ", "\xff"} {
			checkNone(t, strings.Repeat(fill, size)[:size])
		}
		checkNone(t, "a"+strings.Repeat("0", size-2)+"1")
		checkNone(t, strings.Repeat(" ", size-2)+"a1")
	}
}

// P3
func TestTextsAreTheSameJustIfPackagesAre(t *testing.T) {
	list := somePkgs()
	for i, p := range list {
		if impl.PkgText(p) != impl.PkgText(clonePkg(p)) {
			t.Errorf("two texts of %v", p)
		}
		for _, q := range list[:i] {
			if impl.PkgText(p) == impl.PkgText(q) {
				t.Errorf("%v and %v have one text", p, q)
			}
		}
	}
}

// P5
func TestTextWithoutItsLastByte(t *testing.T) {
	for _, p := range somePkgs() {
		text := impl.PkgText(p)
		for end := len(text) - 1; end >= 0; end-- {
			checkRead(t, text[:end])
			if q, ok := impl.PkgRead(text[:end]); ok && samePkg(p, q) {
				t.Errorf("%q and %q are of one package", text, text[:end])
			}
		}
	}
}

// P5
func TestTextWithABlankMore(t *testing.T) {
	for _, p := range somePkgs() {
		text := impl.PkgText(p)
		for i := 0; i <= len(text); i++ {
			checkNone(t, text[:i]+" "+text[i:])
		}
	}
}

func TestTextWithAByteChanged(t *testing.T) {
	for _, p := range somePkgs() {
		text := impl.PkgText(p)
		for i := range text {
			for c := 0; c < 256; c++ {
				b := []byte(text)
				b[i] = byte(c)
				checkRead(t, string(b))
			}
			checkRead(t, text[:i]+text[i+1:])
		}
	}
}

// P8
func TestAnotherVersionNameOrFileIsAnotherText(t *testing.T) {
	for _, p := range somePkgs() {
		text := impl.PkgText(p)
		differs := func(q impl.Pkg) {
			t.Helper()
			if !samePkg(p, q) && impl.PkgText(q) == text {
				t.Errorf("%v and %v have one text", p, q)
			}
		}
		for n := -1; n <= 11; n++ {
			q := clonePkg(p)
			q.Ver = n
			differs(q)
			q = clonePkg(p)
			q.Name = n
			differs(q)
			for i := range p.Files {
				q = clonePkg(p)
				q.Files[i].Path = n
				differs(q)
				q = clonePkg(p)
				q.Files[i].Data = n
				differs(q)
				q = clonePkg(p)
				q.Files = slices.Delete(q.Files, i, i+1)
				differs(q)
			}
			q = clonePkg(p)
			q.Files = append(q.Files, impl.File{Path: n, Data: 3})
			differs(q)
		}
	}
}
