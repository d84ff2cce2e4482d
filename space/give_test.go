package space_test

import (
	"math"
	"slices"
	"testing"

	"stillroom/api"
)

func TestGive(t *testing.T) {
	s := newSpace(t, 5)
	take(t, s, 0, 1, 2, 3)
	give(t, s)
	give(t, s, []int{}...)
	holds(t, s, 1, 0, 1, 2, 3)
	give(t, s, 2)
	holds(t, s, 2, 0, 1, 3)
	give(t, s, 3, 0)
	holds(t, s, 4, 1)
	give(t, s, 1)
	holds(t, s, 5)
}

func TestGiveAll(t *testing.T) {
	s := newSpace(t, api.MaxBlocks)
	l := take(t, s, upTo(api.MaxBlocks)...)
	slices.Reverse(l)
	give(t, s, l...)
	holds(t, s, api.MaxBlocks)
}

// What is refused changes nothing, also where all but the last one would do.
// That one is no block is told ahead, wherever in the list it stands.
func TestGiveRefusesAndChangesNothing(t *testing.T) {
	for _, c := range []struct {
		about string
		l     []int
		err   error
	}{
		{"below 0", []int{-1}, api.ErrBound},
		{"one more than there are", []int{6}, api.ErrBound},
		{"the greatest number", []int{math.MaxInt}, api.ErrBound},
		{"the least number", []int{math.MinInt}, api.ErrBound},
		{"no block behind good ones", []int{0, 1, 6}, api.ErrBound},
		{"no block ahead of good ones", []int{-1, 0, 1}, api.ErrBound},
		{"no block behind a free one", []int{5, -1}, api.ErrBound},
		{"no block ahead of a free one", []int{6, 5}, api.ErrBound},
		{"no block behind one that is there twice", []int{0, 0, 6}, api.ErrBound},
		{"no block, twice", []int{7, 7}, api.ErrBound},
		{"a free one that was never taken", []int{5}, api.ErrNone},
		{"a free one that was given back", []int{2}, api.ErrNone},
		{"a free one behind good ones", []int{0, 1, 3, 5}, api.ErrNone},
		{"a free one ahead of good ones", []int{2, 0}, api.ErrNone},
		{"a free one, twice", []int{5, 5}, api.ErrNone},
		{"twice", []int{0, 0}, api.ErrNone},
		{"twice, with others between", []int{3, 0, 1, 3}, api.ErrNone},
		{"three times", []int{1, 1, 1}, api.ErrNone},
		{"all, and one again", []int{0, 1, 3, 4, 0}, api.ErrNone},
	} {
		s := newSpace(t, 6)
		take(t, s, 0, 1, 2, 3, 4)
		give(t, s, 2)
		if err := s.Give(c.l); err != c.err {
			t.Errorf("%s: %v, want %v", c.about, err, c.err)
		}
		t.Log(c.about)
		holds(t, s, 2, 0, 1, 3, 4)
		take(t, s, 2, 5)
	}
}

func TestGivenBackTwice(t *testing.T) {
	s := newSpace(t, 3)
	take(t, s, 0, 1)
	give(t, s, 0)
	if err := s.Give([]int{0}); err != api.ErrNone {
		t.Errorf("the second time: %v", err)
	}
	holds(t, s, 2, 1)
	take(t, s, 0)
	give(t, s, 0)
	holds(t, s, 2, 1)
}

func TestGiveOfAnEmptyOne(t *testing.T) {
	s := newSpace(t, 1)
	give(t, s)
	if err := s.Give([]int{0}); err != api.ErrNone {
		t.Errorf("free: %v", err)
	}
	if err := s.Give([]int{1}); err != api.ErrBound {
		t.Errorf("no block: %v", err)
	}
	holds(t, s, 1)
}

func TestGiveOnlyReadsTheList(t *testing.T) {
	l := []int{3, 0, 2, 0, -1, 9}
	was := slices.Clone(l)
	s := newSpace(t, 5)
	take(t, s, 0, 1, 2, 3)
	give(t, s, l[:3]...) // behind its length stand numbers that would be refused
	holds(t, s, 4, 1)
	s.Give(l)
	if !slices.Equal(l, was) {
		t.Errorf("%v, was %v", l, was)
	}
	l[0], l[1] = 1, 1
	holds(t, s, 4, 1)
}
