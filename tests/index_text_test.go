package tests

import (
	"math/rand"
	"strings"
	"testing"

	"loop.example/purser/impl"
)

func TestIndexTextsByHand(t *testing.T) {
	for text, want := range map[string]impl.Index{
		"1 0\n":                       {Num: 1},
		"30 60\n":                     {Num: 30, Until: 60},
		"1 5\nb1 77\n":                {Num: 1, Until: 5, Metas: []impl.Meta{{Name: 2, Ver: 1, Sum: 77}}},
		"7 60\na1 0\na2 0\nd5 9972\n": {Num: 7, Until: 60, Metas: []impl.Meta{{Name: 1, Ver: 1}, {Name: 1, Ver: 2}, {Name: 4, Ver: 5, Sum: 9972}}},
	} {
		if got := impl.IndexText(want); got != text {
			t.Errorf("IndexText(%v) = %q, want %q", want, got, text)
		}
		if got, ok := impl.IndexRead(text); !ok || !sameIndex(got, want) {
			t.Errorf("IndexRead(%q) = %v, %v; want %v", text, got, ok, want)
		}
	}
}

// P20
func TestIndexIsReadBack(t *testing.T) {
	back := func(x impl.Index) {
		t.Helper()
		text := impl.IndexText(x)
		if y, ok := impl.IndexRead(text); !ok || !sameIndex(x, y) {
			t.Errorf("IndexRead(%q) = %v, %v; want %v", text, y, ok, x)
		}
	}
	for _, x := range someIndexes() {
		back(x)
	}
	for num := 1; num <= 30; num++ {
		for until := 0; until <= 60; until++ {
			for _, size := range []int{0, 1, 2, 8} {
				back(impl.Index{Num: num, Until: until, Metas: ladder(num*until, 3)[:size]})
			}
		}
	}
	for _, m := range ladder(0) {
		for m.Sum = 0; m.Sum <= 9972; m.Sum++ {
			back(impl.Index{Num: 4, Until: 4, Metas: []impl.Meta{m}})
		}
	}
}

// P21
func TestShortIndexTextsOfAnyBytes(t *testing.T) {
	checkIndexRead(t, "")
	for a := range 256 {
		checkIndexRead(t, string([]byte{byte(a)}))
		for b := range 256 {
			checkIndexRead(t, string([]byte{byte(a), byte(b)}))
			checkIndexRead(t, string([]byte{byte(a), ' ', byte(b), '\n'}))
			checkIndexRead(t, string([]byte{'1', byte(a), '1', byte(b)}))
			checkIndexRead(t, "1 1\n"+string([]byte{byte(a), byte(b)})+" 1\n")
			checkIndexRead(t, "1 1\na1"+string([]byte{byte(a), byte(b)})+"\n")
			checkIndexRead(t, "1 1\na1 "+string([]byte{byte(a), byte(b)}))
		}
	}
	count, read := 0, 0
	var grow func(text string, left int)
	grow = func(text string, left int) {
		checkIndexRead(t, text)
		count++
		if isIndexText(text) {
			read++
		}
		if left > 0 {
			for _, c := range []byte("a16 \n0-") {
				grow(text+string([]byte{c}), left-1)
			}
		}
	}
	grow("", 6)
	for _, head := range []string{"1 0\n", "6 0\na1 6\n"} {
		grow(head, 6)
	}
	if count != 3*137257 || read != 46 {
		t.Errorf("went through %d texts, %d of them of an index", count, read)
	}
}

// P21
func TestIndexTextsOfLinesInAnyOrder(t *testing.T) {
	lines := []string{
		"a1 0\n", "a2 9972\n", "a3 7\n", "b1 77\n", "d5 10\n", "a1 1\n", "1 5\n", "\n", "a1 9973\n", "a6 1\n", "a0 1\n", "e1 1\n", "a1 -1\n",
		"a1 07\n", "a1\n", "a1 \n", " a1 0\n", "a1 0 \n", "a1  0\n", "a1 0 0\n", "a1 0", "A1 0\n", "a1 0\r\n", "a01 0\n", "b1 0:5\n",
	}
	heads := []string{"1 0\n", "30 60\n", "", "0 0\n", "31 0\n", "1 61\n", "1 -1\n", "1\n", "1 \n", "01 0\n", "1 0 0\n", "1 0"}
	var grow func(text string, left int)
	grow = func(text string, left int) {
		checkIndexRead(t, text)
		for _, line := range lines {
			if left > 0 {
				grow(text+line, left-1)
			}
		}
	}
	for i, head := range heads {
		if i < 2 {
			grow(head, 3)
		} else {
			grow(head, 2)
		}
	}
	for i := range 20 {
		grow(wantIndexText(impl.Index{Num: 2, Until: 3, Metas: ladder(4)[i:min(20, i+8)]}), 2)
	}
}

// P21
func TestIndexNumbersAreWrittenOneWay(t *testing.T) {
	for _, s := range []string{
		"0 1\n", "-1 1\n", "31 1\n", "1 -1\n", "1 61\n", "01 1\n", "+1 1\n", "1 01\n", "1 +1\n", "1 -0\n", "1 00\n", " 1 1\n", "1  1\n", "1 1 \n", "1\t1\n", "1,1\n",
		"1 1", "1\n", "1 \n", " 1\n", "\n", "\n1 1\n", "1 1\n\n", "1 1\r\n", "1 1\x00\n", "1 1\n ", "1 1\n\x00", "1 1 1\n", "1_0 1\n", "0x1 1\n", "1e0 1\n", "1.0 1\n", "a 1\n", "a1 1\n",
		"18446744073709551617 1\n", "1 18446744073709551616\n", "4294967297 1\n", "1 4294967297\n", "\u0661 1\n", "1 \u0661\n", "\xff 1\n", "1\u00a01\n",
		"1 1\na1 01\n", "1 1\na1 +1\n", "1 1\na1 -0\n", "1 1\na1 -1\n", "1 1\na1 00\n", "1 1\na1 9973\n", "1 1\na1 10000\n", "1 1\na1  1\n", "1 1\na1 1 \n", "1 1\n a1 1\n", "1 1\na1\t1\n",
		"1 1\na01 1\n", "1 1\na+1 1\n", "1 1\na-1 1\n", "1 1\na0 1\n", "1 1\na6 1\n", "1 1\na10 1\n", "1 1\na 1\n", "1 1\na\n", "1 1\na1\n", "1 1\na1 \n", "1 1\n1 1\n", "1 1\n1 a1\n",
		"1 1\ne1 1\n", "1 1\n`1 1\n", "1 1\nA1 1\n", "1 1\naa1 1\n", "1 1\n\u04301 1\n", "1 1\n\xff1 1\n", "1 1\na1 1", "1 1\na1 1\n\n", "1 1\n\na1 1\n", "1 1\na1 1\r\n", "1 1\na1 1 1\n", "1 1\na1 1\nb",
		"1 1\na18446744073709551617 1\n", "1 1\na1 18446744073709551616\n", "1 1\na1 4294967297\n", "1 1\na1 0x1\n", "1 1\na1 1e1\n", "1 1\na1 1_0\n", "1 1\na1 0:1\n", "1 1 a1 1\n",
		"1 1\nb1 1\na1 1\n", "1 1\na2 1\na1 1\n", "1 1\na1 1\na1 1\n", "1 1\na1 1\na1 2\n", "1 1\na1 2\na1 1\n", "1 1\na1 1b1 1\n", "a1 1\n1 1\n", "1 1\na1 1\n1 1\n", "1 1\na1 1\n2 1\nb1 1\n",
	} {
		if isIndexText(s) {
			t.Fatalf("%q is no wrong text", s)
		}
		checkNoIndex(t, s)
	}
}

// P21
func TestIndexTextsOfRandomBytes(t *testing.T) {
	r := rand.New(rand.NewSource(32))
	for n := range 200000 {
		b := make([]byte, r.Intn(130))
		for i := range b {
			b[i] = byte(r.Intn(256))
			if n%2 == 0 {
				b[i] = "abcd12345 0\n"[r.Intn(12)]
			}
		}
		checkIndexRead(t, string(b))
	}
}

// P21
func TestIndexTextWithAByteChanged(t *testing.T) {
	for n, x := range someIndexes() {
		if n%3 != 0 {
			continue
		}
		text := impl.IndexText(x)
		for i := range text {
			checkIndexRead(t, text[:i]+text[i+1:])
			for c := range 256 {
				b := []byte(text)
				b[i] = byte(c)
				checkIndexRead(t, string(b))
				if y, ok := impl.IndexRead(string(b)); ok && sameIndex(x, y) != (b[i] == text[i]) {
					t.Errorf("%q and %q are of one index", text, b)
				}
				if n%15 == 0 {
					checkIndexRead(t, text[:i]+string([]byte{byte(c)})+text[i:])
				}
			}
		}
	}
}

func TestIndexTextsOf120BytesAndLonger(t *testing.T) {
	longest := wantIndexText(impl.Index{Num: 30, Until: 60, Metas: ladder(9972)[12:]})
	if _, ok := impl.IndexRead(longest); !ok || len(longest) != 70 {
		t.Errorf("the longest text, of %d bytes, is not read", len(longest))
	}
	for _, fill := range []string{" ", "0", "1", "\n", "a1 1\n", "d5 9972\n", "\x00"} {
		long := longest + strings.Repeat(fill, 60)
		for _, size := range []int{71, 78, 119, 120, 121, 122, len(long)} {
			if size <= len(long) {
				checkNoIndex(t, long[:size])
			}
		}
	}
	for _, size := range []int{119, 120, 121, 122, 1000, 1 << 20} {
		for _, fill := range []string{"1", " ", "\n", "1 1\n", "a1 1\n", "\xff"} {
			checkNoIndex(t, strings.Repeat(fill, size)[:size])
		}
		checkNoIndex(t, strings.Repeat("0", size-4)+"1 5\n")
		checkNoIndex(t, "1 "+strings.Repeat("0", size-4)+"5\n")
		checkNoIndex(t, "1 5\nb1 "+strings.Repeat("0", size-10)+"77\n")
		checkNoIndex(t, strings.Repeat("\n", size-4)+"1 5\n")
		checkNoIndex(t, "1 5\n"+strings.Repeat("\n", size-4))
	}
	for size, last := range map[int]int{120: 1, 121: 22} {
		metas := append(ladder(9972)[:13], impl.Meta{Name: 4, Ver: 1, Sum: 1}, impl.Meta{Name: 4, Ver: 2, Sum: last})
		text := wantIndexText(impl.Index{Num: 30, Until: 60, Metas: metas})
		if len(text) != size {
			t.Errorf("%q has %d bytes, not %d", text, len(text), size)
		}
		checkNoIndex(t, text)
		checkNoIndex(t, text+text)
	}
}

// P22
func TestIndexTextsAreTheSameJustIfIndexesAre(t *testing.T) {
	list := someIndexes()
	for i, x := range list {
		if impl.IndexText(x) != impl.IndexText(cloneIndex(x)) {
			t.Errorf("two texts of %v", x)
		}
		for _, y := range list[:i] {
			if (impl.IndexText(x) == impl.IndexText(y)) != sameIndex(x, y) {
				t.Errorf("%v and %v: one text is not one index", x, y)
			}
		}
	}
}

// P22
func TestAnIndexChangedIsAnotherText(t *testing.T) {
	for _, x := range someIndexes() {
		text := impl.IndexText(x)
		differs := func(y impl.Index) {
			t.Helper()
			if impl.IndexOk(y) && !sameIndex(x, y) && impl.IndexText(y) == text {
				t.Errorf("%v and %v have one text", x, y)
			}
		}
		for n := range 62 {
			y := cloneIndex(x)
			y.Num = n
			differs(y)
			y = cloneIndex(x)
			y.Until = n
			differs(y)
		}
		for i := range x.Metas {
			differs(withoutMeta(x, i))
			for n := range 12 {
				y := cloneIndex(x)
				y.Metas[i].Name = n
				differs(y)
				y = cloneIndex(x)
				y.Metas[i].Ver = n
				differs(y)
				y = cloneIndex(x)
				y.Metas[i].Sum = (y.Metas[i].Sum*10 + n) % 9973
				differs(y)
			}
		}
	}
}

// P28
func TestIndexTextWithoutItsLastByte(t *testing.T) {
	for _, x := range someIndexes() {
		text := impl.IndexText(x)
		checkNoIndex(t, text[:len(text)-1])
		for end := range text {
			checkIndexRead(t, text[:end])
		}
	}
}

// P28
func TestIndexTextWithoutItsLastLine(t *testing.T) {
	for _, x := range someIndexes() {
		text := impl.IndexText(x)
		left := text[:strings.LastIndexByte(text[:len(text)-1], '\n')+1]
		if len(x.Metas) == 0 {
			if left != "" {
				t.Errorf("%q has more than one line", text)
			}
			checkNoIndex(t, left)
			continue
		}
		want := withoutMeta(x, len(x.Metas)-1)
		if y, ok := impl.IndexRead(left); !ok || !sameIndex(y, want) {
			t.Errorf("IndexRead(%q) = %v, %v; want %v", left, y, ok, want)
		}
		if impl.IndexText(want) != left {
			t.Errorf("IndexText(%v) = %q, want %q", want, impl.IndexText(want), left)
		}
	}
}
