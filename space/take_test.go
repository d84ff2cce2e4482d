package space_test

import (
	"math"
	"slices"
	"testing"

	"stillroom/api"
)

func TestTakeTheLeast(t *testing.T) {
	s := newSpace(t, 6)
	take(t, s)
	holds(t, s, 6)
	take(t, s, 0, 1)
	holds(t, s, 4, 0, 1)
	take(t, s, 2)
	take(t, s, 3, 4, 5)
	holds(t, s, 0, upTo(6)...)
	take(t, s)
	holds(t, s, 0, upTo(6)...)
}

func TestTakeWhatWasGivenBackInBetween(t *testing.T) {
	s := newSpace(t, 8)
	take(t, s, upTo(6)...)
	give(t, s, 4, 1, 2) // in an order of their own: they are taken rising
	holds(t, s, 5, 0, 3, 5)
	take(t, s, 1, 2)
	take(t, s, 4, 6)
	give(t, s, 0)
	take(t, s, 0, 7)
	holds(t, s, 0, upTo(8)...)
	give(t, s, 7)
	give(t, s, 3)
	take(t, s, 3)
	take(t, s, 7)
}

func TestTakeFirstAndLastBlock(t *testing.T) {
	s := newSpace(t, api.MaxBlocks)
	take(t, s, upTo(api.MaxBlocks)...)
	give(t, s, api.MaxBlocks-1, 0)
	take(t, s, 0, api.MaxBlocks-1)
}

func TestTakeRefusesAndChangesNothing(t *testing.T) {
	s := newSpace(t, 4)
	take(t, s, 0, 1)
	give(t, s, 0)
	for _, c := range []struct {
		k   int
		err error
	}{
		{-1, api.ErrBound},
		{-4, api.ErrBound},
		{math.MinInt, api.ErrBound},
		{4, api.ErrFull},
		{5, api.ErrFull},
		{api.MaxBlocks + 1, api.ErrFull},
		{math.MaxInt, api.ErrFull},
	} {
		if l, err := s.Take(c.k); len(l) > 0 || err != c.err {
			t.Errorf("Take(%d): %v, %v, want %v", c.k, l, err, c.err)
		}
		holds(t, s, 3, 1)
	}
	take(t, s, 0, 2, 3)
	if l, err := s.Take(1); len(l) > 0 || err != api.ErrFull {
		t.Errorf("Take of a full one: %v, %v", l, err)
	}
	if l, err := s.Take(-1); len(l) > 0 || err != api.ErrBound {
		t.Errorf("Take below 0 of a full one: %v, %v", l, err)
	}
	holds(t, s, 0, 0, 1, 2, 3)
}

func TestTakenIsNewMemory(t *testing.T) {
	s := newSpace(t, 6)
	a := take(t, s, 0, 1)
	b := take(t, s, 2, 3)
	_ = append(a, 9, 9)
	a[0], a[1] = 5, 5
	if !slices.Equal(b, []int{2, 3}) {
		t.Errorf("%v", b)
	}
	holds(t, s, 2, 0, 1, 2, 3)
	take(t, s, 4, 5)
}
