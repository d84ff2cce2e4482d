package store_test

import (
	"fmt"
	"math"
	"testing"

	"stillroom/api"
	"stillroom/disk"
	"stillroom/inode"
	"stillroom/store"
)

// wrongs are numbers of blocks that no disk has.
func wrongs() []int { return []int{0, -1, api.MaxBlocks + 1, math.MaxInt, math.MinInt} }

func TestNew(t *testing.T) {
	for _, n := range []int{1, 2, 64, api.MaxBlocks} {
		s := newStore(t, n)
		answers(t, s, "free", fmt.Sprint(n), "list", "nothing", "roots", "nothing", "scan", "nothing", "saved", "0", "where 0", "nothing", "gc", "0", "opt", "0")
		refuses(t, s, api.ErrBound, fmt.Sprintf("rot %d 0", n))
		answers(t, s, fmt.Sprintf("rot %d 127", n-1), "ok")
		packsAre(t, s)
		rootsAre(t, s)
		statsAre(t, s)
		opens(t, s, n)
	}
	for _, n := range wrongs() {
		if s, err := store.New(n); s != nil || err != api.ErrBound {
			t.Errorf("New(%d): %v, %v", n, s, err)
		}
	}
}

func TestStoresAreApart(t *testing.T) {
	a, b := newStore(t, 9), newStore(t, 9)
	does(t, a, "add a f1:x", "root a")
	does(t, b, "add b f1:y")
	answers(t, a, "list", "a", "roots", "a")
	answers(t, b, "list", "b", "roots", "nothing", "read b /", "y")
	cut(t, a, 0)
	off(t, a, "gc")
	does(t, b, "gc")
}

// What is answered is new memory: nobody else sees what is written into it.
func TestAnswersAreNewMemory(t *testing.T) {
	lines := []string{"add a d1:1:af3:abc", "add b d2:1:ad1:1:xf2:#a1:bf2:#b", "root a", "root b", "add c f20:01234567890123456789"}
	s := newStore(t, 9, lines...)
	was := all(s)
	for range 2 {
		packs, _ := s.Packs()
		for i := range packs {
			spoil(packs[i].Tree)
			for k := range packs[i].Refs {
				packs[i].Refs[k] = "spoilt"
			}
			_ = append(packs[i].Refs[:0], "spoilt")
			packs[i] = api.Pack{}
		}
		roots := s.Roots()
		roots[0] = "spoilt"
		_ = append(roots[:1], "spoilt")
		stats := s.Stats()
		for i := range stats {
			for k := range stats[i].Blocks {
				stats[i].Blocks[k] = 99
			}
			_ = append(stats[i].Blocks[:0], 98)
			stats[i] = inode.Stat{}
		}
		if now := all(s); now != was {
			t.Fatalf("%s, was %s", now, was)
		}
	}
	// Nor does who was answered see what comes later.
	packs, _ := s.Packs()
	roots, stats := s.Roots(), s.Stats()
	had := fmt.Sprint(packs, roots, stats)
	does(t, s, "unroot a", "root c", "opt", "rot 0 0", "mend 0 abc", "unroot b", "gc", "add d f2:#c")
	if now := fmt.Sprint(packs, roots, stats); now != had {
		t.Errorf("%s, was %s", now, had)
	}
}

// spoil writes into every list of a node.
func spoil(n api.Node) {
	for i := range n.Kids {
		spoil(n.Kids[i].Node)
		n.Kids[i] = kid("spoilt", link("spoilt"))
	}
}

// Rising by their numbers, also where these have gaps.
func TestStats(t *testing.T) {
	s := newStore(t, 12)
	for i := range 12 {
		does(t, s, fmt.Sprintf("add p%d f1:%c", i, 'a'+i))
	}
	does(t, s, "root p11", "root p2", "root p10", "gc")
	stat := func(data string, block int) inode.Stat {
		return inode.Stat{Bytes: 1, Links: 1, Blocks: []int{block}, Sum: disk.Sum(data)}
	}
	statsAre(t, s, stat("c", 2), stat("k", 10), stat("l", 11))
	does(t, s, "add new x2:no")
	statsAre(t, s, inode.Stat{Bytes: 2, Links: 1, Exec: true, Blocks: []int{0}, Sum: disk.Sum("no")}, stat("c", 2), stat("k", 10), stat("l", 11))
}

// New and Open answer a nil store with an error: no call of it panics either.
func TestNoStore(t *testing.T) {
	none, _ := store.New(0)
	if none.Tape() != nil {
		t.Error("a tape")
	}
	packsAre(t, none)
	rootsAre(t, none)
	statsAre(t, none)
	answers(t, none, "list", "nothing", "roots", "nothing", "scan", "nothing", "free", "0", "saved", "0", "where 0", "nothing")
	for _, c := range []struct {
		line string
		want error
	}{
		{"", api.ErrText}, {"add A f0:", api.ErrName}, {"add a f0:", api.ErrFull}, {"root a", api.ErrNone}, {"unroot a", api.ErrNone},
		{"gc", api.ErrShape}, {"opt", api.ErrShape}, {"rot 0 0", api.ErrBound}, {"mend 0 x", api.ErrShape},
		{"read a /", api.ErrNone}, {"refs a", api.ErrNone}, {"users a", api.ErrNone}, {"need a", api.ErrNone},
	} {
		if got, err := none.Do(c.line); got != "" || err != c.want {
			t.Errorf("%q: %q, %v, want %v", c.line, got, err, c.want)
		}
	}
}
