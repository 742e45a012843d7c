package impl

import (
	"errors"
	"strconv"
	"strings"
)

// Limits of packages: names, versions, places of files, what is in one, and how many of each there are.
const (
	NameMax = 4
	VerMax  = 5
	PathMax = 6
	DataMax = 9
	FileMax = 2
	DepMax  = 2
)

// SumMod is what sums stay below.
const SumMod = 9973

// pkgTextMax bounds what PkgRead looks at, so that a long text costs nothing.
const pkgTextMax = 30

// errNoWord is one error for all that is no word: who reads asks only whether it is one.
var errNoWord = errors.New("no word of a text")

// File is a file: where, and what is in it.
type File struct {
	Path int
	Data int
}

// Dep is what a package needs: a package, of a version at least.
type Dep struct {
	Name  int
	Least int
}

// Pkg is a package: its name, its version, its files, and what it needs.
type Pkg struct {
	Name  int
	Ver   int
	Files []File
	Deps  []Dep
}

// word is one word of the text of a package.
type word interface {
	spell() string
}

// headWord is spelt as a needWord is; a type of its own keeps them apart once the place of the word is forgotten.
type headWord struct {
	name int
	ver  int
}

type fileWord File

type needWord Dep

func (w headWord) spell() string {
	return spellNamed(w.name, w.ver)
}

func (w fileWord) spell() string {
	return strconv.Itoa(w.Path) + ":" + strconv.Itoa(w.Data)
}

func (w needWord) spell() string {
	return spellNamed(w.Name, w.Least)
}

func spellNamed(name int, number int) string {
	return string(rune('a'+name-1)) + strconv.Itoa(number)
}

func between(n int, low int, high int) bool {
	return low <= n && n <= high
}

// PkgOk says whether a package is ok.
func PkgOk(p Pkg) bool {
	return between(p.Name, 1, NameMax) && between(p.Ver, 1, VerMax) &&
		filesOk(p.Files) && depsOk(p.Name, p.Deps)
}

func filesOk(files []File) bool {
	if len(files) > FileMax {
		return false
	}
	for i, f := range files {
		if !between(f.Path, 0, PathMax-1) || !between(f.Data, 0, DataMax) {
			return false
		}
		if i > 0 && files[i-1].Path >= f.Path {
			return false
		}
	}
	return true
}

func depsOk(own int, deps []Dep) bool {
	if len(deps) > DepMax {
		return false
	}
	for i, d := range deps {
		if !between(d.Name, 1, NameMax) || !between(d.Least, 1, VerMax) || d.Name == own {
			return false
		}
		if i > 0 && deps[i-1].Name >= d.Name {
			return false
		}
	}
	return true
}

// PkgText is the text of a package.
func PkgText(p Pkg) string {
	if !PkgOk(p) {
		return ""
	}
	spelt := []string{}
	for _, w := range wordsOf(p) {
		spelt = append(spelt, w.spell())
	}
	return strings.Join(spelt, " ")
}

func wordsOf(p Pkg) []word {
	words := []word{headWord{name: p.Name, ver: p.Ver}}
	for _, f := range p.Files {
		words = append(words, fileWord(f))
	}
	for _, d := range p.Deps {
		words = append(words, needWord(d))
	}
	return words
}

// PkgRead is the package of a text.
func PkgRead(text string) (Pkg, bool) {
	if len(text) > pkgTextMax {
		return Pkg{}, false
	}
	words, err := readWords(text)
	if errors.Is(err, errNoWord) {
		return Pkg{}, false
	}
	p := pkgOf(words)
	// Needless zeros, signs, and needs ahead of files pass up to here: a text counts only if it is the package's own.
	if !PkgOk(p) || PkgText(p) != text {
		return Pkg{}, false
	}
	return p, true
}

func pkgOf(words []word) Pkg {
	p := Pkg{}
	for _, w := range words {
		switch x := w.(type) {
		case headWord:
			p.Name, p.Ver = x.name, x.ver
		case fileWord:
			p.Files = append(p.Files, File(x))
		case needWord:
			p.Deps = append(p.Deps, Dep(x))
		}
	}
	return p
}

func readWords(text string) ([]word, error) {
	words := []word{}
	for i, s := range strings.Split(text, " ") {
		w, err := readWord(s, i == 0)
		if err != nil {
			return nil, err
		}
		words = append(words, w)
	}
	return words, nil
}

func readWord(s string, first bool) (word, error) {
	if path, data, found := strings.Cut(s, ":"); found {
		return readFile(path, data)
	}
	name, number, err := readNamed(s)
	if err != nil {
		return nil, err
	}
	if first {
		return headWord{name: name, ver: number}, nil
	}
	return needWord{Name: name, Least: number}, nil
}

func readFile(path string, data string) (word, error) {
	at, err := readNumber(path)
	if err != nil {
		return nil, err
	}
	is, err := readNumber(data)
	if err != nil {
		return nil, err
	}
	return fileWord{Path: at, Data: is}, nil
}

func readNamed(s string) (int, int, error) {
	if s == "" {
		return 0, 0, errNoWord
	}
	number, err := readNumber(s[1:])
	if err != nil {
		return 0, 0, err
	}
	return int(s[0]) - 'a' + 1, number, nil
}

func readNumber(s string) (int, error) {
	n, err := strconv.Atoi(s)
	if err != nil {
		return 0, errNoWord
	}
	return n, nil
}

// SumOf is the sum of a text.
func SumOf(text string) int {
	sum := 7
	for i := 0; i < len(text); i++ {
		sum = (31*sum + int(text[i]) + 1) % SumMod
	}
	return sum
}
