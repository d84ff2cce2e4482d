package space_test

import (
	"math"
	"testing"

	"stillroom/api"
	"stillroom/space"
)

func TestNew(t *testing.T) {
	for _, n := range []int{1, 2, 3, api.MaxBlocks - 1, api.MaxBlocks} {
		s := newSpace(t, n)
		holds(t, s, n)
		take(t, s, upTo(n)...)
		holds(t, s, 0, upTo(n)...)
	}
	for _, n := range []int{0, -1, api.MaxBlocks + 1, math.MaxInt, math.MinInt} {
		if s, err := space.New(n); s != nil || err != api.ErrBound {
			t.Errorf("New(%d): %v, %v", n, s, err)
		}
	}
}

func TestSpacesAreApart(t *testing.T) {
	a, b := newSpace(t, 3), newSpace(t, 3)
	take(t, a, 0, 1)
	take(t, b, 0)
	give(t, a, 0)
	holds(t, a, 2, 1)
	holds(t, b, 2, 0)
}

func TestUsedIsNewMemory(t *testing.T) {
	s := newSpace(t, 4)
	take(t, s, 0, 1, 2)
	l := s.Used()
	l[0], l[2] = 3, 3
	_ = append(l[:1], 3)
	holds(t, s, 1, 0, 1, 2)
	take(t, s, 3)
}

func TestCopyGoesOnByItself(t *testing.T) {
	s := newSpace(t, 6)
	take(t, s, 0, 1, 2, 3)
	give(t, s, 1)
	c := s.Copy()
	holds(t, c, 3, 0, 2, 3)

	take(t, s, 1, 4)
	holds(t, s, 1, 0, 1, 2, 3, 4)
	holds(t, c, 3, 0, 2, 3)

	give(t, c, 3, 0)
	holds(t, s, 1, 0, 1, 2, 3, 4)
	holds(t, c, 5, 2)

	take(t, c, 0, 1, 3, 4, 5)
	holds(t, s, 1, 0, 1, 2, 3, 4)
	holds(t, c, 0, upTo(6)...)

	give(t, s, upTo(5)...)
	holds(t, s, 6)
	holds(t, c, 0, upTo(6)...)
}

func TestCopyRefusesAsTheFirstOneDoes(t *testing.T) {
	s := newSpace(t, 2)
	take(t, s, 0)
	c := s.Copy().Copy()
	if l, err := c.Take(2); len(l) > 0 || err != api.ErrFull {
		t.Errorf("Take: %v, %v", l, err)
	}
	if err := c.Give([]int{1}); err != api.ErrNone {
		t.Errorf("Give: %v", err)
	}
	if err := c.Give([]int{2}); err != api.ErrBound {
		t.Errorf("Give of no block: %v", err)
	}
	holds(t, c, 1, 0)
	holds(t, s, 1, 0)
}

func TestCopyOfNoneAndOfAll(t *testing.T) {
	s := newSpace(t, 3)
	none := s.Copy()
	take(t, s, 0, 1, 2)
	all := s.Copy()
	give(t, s, 1)
	holds(t, none, 3)
	holds(t, all, 0, 0, 1, 2)
}

func TestNeed(t *testing.T) {
	for _, c := range []struct{ bytes, want int }{
		{math.MinInt, 0},
		{-api.BlockSize - 1, 0},
		{-api.BlockSize, 0},
		{-1, 0},
		{0, 0},
		{1, 1},
		{api.BlockSize - 1, 1},
		{api.BlockSize, 1},
		{api.BlockSize + 1, 2},
		{2*api.BlockSize - 1, 2},
		{2 * api.BlockSize, 2},
		{2*api.BlockSize + 1, 3},
		{api.MaxData, 125},
		{api.BlockSize * api.MaxBlocks, api.MaxBlocks},
		{api.BlockSize*api.MaxBlocks + 1, api.MaxBlocks + 1},
		{math.MaxInt - api.BlockSize + 1, math.MaxInt / api.BlockSize}, // just filled
		{math.MaxInt - api.BlockSize + 2, math.MaxInt/api.BlockSize + 1},
		{math.MaxInt, math.MaxInt/api.BlockSize + 1},
	} {
		if got := space.Need(c.bytes); got != c.want {
			t.Errorf("Need(%d): %d, want %d", c.bytes, got, c.want)
		}
	}
}

// Counted up byte by byte: a block more at each one that is the first of it.
func TestNeedCounted(t *testing.T) {
	want := 0
	for bytes := 1; bytes <= 3*api.MaxData; bytes++ {
		if bytes%api.BlockSize == 1 {
			want++
		}
		if got := space.Need(bytes); got != want {
			t.Fatalf("Need(%d): %d, want %d", bytes, got, want)
		}
	}
}

// New answers a nil space with an error: a call of it does not panic either.
func TestNoSpace(t *testing.T) {
	s, _ := space.New(0)
	holds(t, s, 0)
	take(t, s)
	give(t, s)
	if l, err := s.Take(1); len(l) > 0 || err != api.ErrFull {
		t.Errorf("Take: %v, %v", l, err)
	}
	if l, err := s.Take(-1); len(l) > 0 || err != api.ErrBound {
		t.Errorf("Take below 0: %v, %v", l, err)
	}
	if err := s.Give([]int{0}); err != api.ErrBound {
		t.Errorf("Give: %v", err)
	}
	holds(t, s.Copy(), 0)
}
