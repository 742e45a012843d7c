package tests

import (
	"math/rand"
	"strings"
	"testing"

	"loop.example/purser/impl"
)

func randomText(r *rand.Rand, size int) string {
	b := make([]byte, size)
	for i := range b {
		b[i] = byte(r.Intn(256))
	}
	return string(b)
}

func nextSum(sum int, c byte) int {
	return (31*sum + int(c) + 1) % 9973
}

func TestSumsByHand(t *testing.T) {
	for text, want := range map[string]int{
		"":     7,
		"a":    315,
		"\x00": 218,
		"\xff": 473,
		"a1":   9815,
		"a1 ":  5108,
	} {
		if got := impl.SumOf(text); got != want {
			t.Errorf("SumOf(%q) = %d, want %d", text, got, want)
		}
	}
}

// P6
func TestSumWithAByteMore(t *testing.T) {
	r := rand.New(rand.NewSource(2))
	texts := []string{"", "\x00", "\xff\xff", "a1", "b2 0:5 3:7 a1 d4", "\u00e4\u20ac", strings.Repeat("z", 30), strings.Repeat("\xff", 31)}
	for size := 0; size < 100; size++ {
		texts = append(texts, randomText(r, size))
	}
	for _, text := range texts {
		sum := impl.SumOf(text)
		if sum < 0 || sum >= 9973 {
			t.Errorf("SumOf(%q) = %d", text, sum)
		}
		for c := 0; c < 256; c++ {
			more := text + string([]byte{byte(c)})
			if got, want := impl.SumOf(more), nextSum(sum, byte(c)); got != want {
				t.Errorf("SumOf(%q) = %d, want %d", more, got, want)
			}
		}
	}
}

// P6
func TestSumOfLongTexts(t *testing.T) {
	r := rand.New(rand.NewSource(3))
	for _, text := range []string{randomText(r, 1<<20), strings.Repeat("\xff", 1<<20), strings.Repeat("\x00", 1<<20)} {
		want := 7
		for i := range len(text) {
			want = nextSum(want, text[i])
		}
		if got := impl.SumOf(text); got != want {
			t.Errorf("SumOf of %d bytes = %d, want %d", len(text), got, want)
		}
	}
}

// P7
func TestSumWithAByteChanged(t *testing.T) {
	r := rand.New(rand.NewSource(4))
	texts := []string{"a", "\x00", "\xff", strings.Repeat("a", 120), randomText(r, 200)}
	for _, p := range somePkgs() {
		texts = append(texts, impl.PkgText(p))
	}
	for _, text := range texts {
		sum := impl.SumOf(text)
		b := []byte(text)
		for i := range b {
			for c := 0; c < 256; c++ {
				b[i] = byte(c)
				if same := impl.SumOf(string(b)) == sum; same != (b[i] == text[i]) {
					t.Errorf("SumOf of %q and %q: the same is %v", text, b, same)
				}
			}
			b[i] = text[i]
		}
	}
}

// P9
func TestSumsStayTheSameOrNot(t *testing.T) {
	r := rand.New(rand.NewSource(5))
	behind := []string{"", "\x00", "a", " 0:5", "\xff\xff\xff", randomText(r, 40)}
	bySum := map[int][]string{}
	for a := 0; a < 256; a++ {
		for b := 0; b < 256; b += 5 {
			text := string([]byte{byte(a), byte(b)})
			bySum[impl.SumOf(text)] = append(bySum[impl.SumOf(text)], text)
		}
	}
	same := 0
	for _, texts := range bySum {
		for _, text := range texts[1:] {
			same++
			for _, tail := range behind {
				if impl.SumOf(texts[0]+tail) != impl.SumOf(text+tail) {
					t.Errorf("sums of %q and %q part behind %q", texts[0], text, tail)
				}
			}
		}
	}
	if same == 0 {
		t.Error("no two texts with one sum")
	}
	for _, tail := range behind {
		sums := map[int]bool{}
		for _, texts := range bySum {
			sums[impl.SumOf(texts[0]+tail)] = true
		}
		if len(sums) != len(bySum) {
			t.Errorf("%d sums become %d behind %q", len(bySum), len(sums), tail)
		}
	}
}
