package tests

import (
	"slices"
	"testing"

	"loop.example/purser/impl"
)

func TestStoreOkByHand(t *testing.T) {
	checkStoreOk(t, nil, true)
	checkStoreOk(t, []impl.Pkg{}, true)
	for _, texts := range [][]string{{"a1"}, {"d5 0:1 a1"}, {"a1", "a2"}, {"a1", "b1"}, {"a5", "b1"}, {"a1", "a5", "b1", "b2 0:1", "d1 5:9 b5"}} {
		checkStoreOk(t, readAll(t, texts...), true)
	}
	for _, texts := range [][]string{{"a2", "a1"}, {"b1", "a1"}, {"b1", "a5"}, {"a1", "a1"}, {"a1", "a1 0:1"}} {
		checkStoreOk(t, readAll(t, texts...), false)
	}
}

// More may be kept than an index tells of: one of each name and version, of any kind.
func TestStoreOkOfAllPlaces(t *testing.T) {
	for _, second := range []uint{0, 0xfffff, 0x55555} {
		all := mixed(0xfffff, second)
		for from := range len(all) {
			for to := from; to <= len(all); to++ {
				checkStoreOk(t, all[from:to], true)
			}
		}
	}
	for _, c := range someStoreCases() {
		checkStoreOk(t, c.store, true)
	}
}

// Two packages of each name and version, in order, out of order, and twice, whatever their texts are.
func TestStoreOkOfTwoInAnyOrder(t *testing.T) {
	both := twins()
	for i := range both[0] {
		for j := range both[0] {
			for kind := range 4 {
				checkStoreOk(t, []impl.Pkg{both[kind%2][i], both[kind/2][j]}, i < j)
			}
		}
	}
}

func TestStoreOkOfThreeInAnyOrder(t *testing.T) {
	list := mixed(0x9c63, 0x4c02)
	for i := range list {
		for j := range list {
			for k := range list {
				checkStoreOk(t, []impl.Pkg{list[i], list[j], list[k]}, i < j && j < k)
			}
		}
	}
}

func TestStoreOkOfWhatIsNotOk(t *testing.T) {
	for _, s := range oddStores(t) {
		checkStoreOk(t, s, false)
	}
	for _, p := range somePkgs() {
		checkStoreOk(t, []impl.Pkg{p}, true)
	}
}

// P44
func TestStoreOkWithoutAny(t *testing.T) {
	for _, c := range someStoreCases() {
		for i := range c.store {
			checkStoreOk(t, slices.Delete(slices.Clone(c.store), i, i+1), true)
		}
	}
}

// P44: twice beside itself, ahead of all, and behind all; with the same text, and with another one.
func TestStoreOkWithAnyTwice(t *testing.T) {
	for _, c := range someStoreCases() {
		for i, p := range c.store {
			changed := clonePkg(p)
			changed.Files = []impl.File{{Path: 2, Data: 7}}
			for _, q := range []impl.Pkg{p, clonePkg(p), changed} {
				for _, at := range []int{0, i, i + 1, len(c.store)} {
					checkStoreOk(t, slices.Insert(slices.Clone(c.store), at, q), false)
				}
			}
		}
	}
}
