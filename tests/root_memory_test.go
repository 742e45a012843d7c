package tests

import (
	"slices"
	"sync"
	"testing"

	"loop.example/purser/impl"
)

// roomyKeys are keys with marked room behind their end, and a look at all of that room.
func roomyKeys(keys []int) ([]int, []int) {
	room := slices.Concat(keys, []int{1, 2, 3, 101, 102})
	return room[:len(keys)], room
}

func someKeys() [][]int {
	return append(append(allKeys(), oddKeys()...), nil)
}

// All answers of the chapter, so that none of them is left out where arguments are looked at.
func rootAnswers(r impl.Root, s impl.SigRoot) []int {
	answers := []int{impl.KeysBoth(r.Keys, s.By), impl.KeysBoth(s.By, r.Keys)}
	for _, yes := range []bool{
		impl.KeysOk(s.By), impl.RootOk(r), impl.RootSigned(r, s.By), impl.RootNext(r, s), impl.RootNext(s.Root, s),
	} {
		n := 0
		if yes {
			n = 1
		}
		answers = append(answers, n)
	}
	return answers
}

func TestRootsWriteIntoNoArgument(t *testing.T) {
	for _, keys := range someKeys() {
		for _, by := range someKeys() {
			r := impl.Root{Num: 1, Keys: slices.Clone(keys), Need: 1}
			s := impl.SigRoot{Root: impl.Root{Num: 2, Keys: []int{2, 3}, Need: 1}, By: slices.Clone(by)}
			want := rootAnswers(r, s)
			q, z := r, s
			var rRoom, nRoom, byRoom []int
			q.Keys, rRoom = roomyKeys(r.Keys)
			z.Root.Keys, nRoom = roomyKeys(s.Root.Keys)
			z.By, byRoom = roomyKeys(s.By)
			rWas, nWas, byWas := slices.Clone(rRoom), slices.Clone(nRoom), slices.Clone(byRoom)
			if got := rootAnswers(q, z); !slices.Equal(got, want) {
				t.Errorf("room behind %v or %v is seen", keys, by)
			}
			if !slices.Equal(rRoom, rWas) || !slices.Equal(nRoom, nWas) || !slices.Equal(byRoom, byWas) {
				t.Errorf("an argument was changed: %v or %v", keys, by)
			}
		}
	}
}

// An answer that hung on memory of an argument would be the elder one behind a change of that memory.
func TestRootsFollowTheirArguments(t *testing.T) {
	keys, by := []int{1, 2, 3}, []int{1, 2, 4}
	r := impl.Root{Num: 1, Keys: keys, Need: 2}
	s := impl.SigRoot{Root: impl.Root{Num: 2, Keys: []int{4, 5}, Need: 1}, By: by}
	for range 3 {
		checkNext(t, r, s, true)
		checkSigned(t, r, by, true)
		checkBoth(t, keys, by, 2)
		by[1] = 3
		checkNext(t, r, s, true)
		keys[2] = 6
		checkNext(t, r, s, false)
		checkSigned(t, r, by, false)
		checkBoth(t, keys, by, 1)
		by[1] = 1
		checkKeysOk(t, by, false)
		checkSigned(t, r, by, false)
		checkBoth(t, keys, by, -1)
		by[1], keys[2] = 2, 3
	}
}

func TestRootsTakeOneListTwice(t *testing.T) {
	for _, keys := range allKeys() {
		room, _ := roomyKeys(keys)
		r := impl.Root{Num: 1, Keys: room, Need: max(1, len(keys))}
		s := impl.SigRoot{Root: impl.Root{Num: 2, Keys: room, Need: r.Need}, By: room}
		checkNext(t, r, s, len(keys) > 0)
		checkBoth(t, room, room, len(keys))
	}
}

func TestRootsKeepNothingBetweenCalls(t *testing.T) {
	var group sync.WaitGroup
	for range 4 {
		group.Go(func() {
			for _, r := range rootsOf(3) {
				for _, by := range allKeys() {
					s := impl.SigRoot{Root: impl.Root{Num: 4, Keys: []int{1, 2, 6}, Need: 2}, By: by}
					checkSigned(t, r, by, wantSigned(r, by))
					checkNext(t, r, s, wantNext(r, s))
				}
			}
		})
	}
	group.Wait()
}
