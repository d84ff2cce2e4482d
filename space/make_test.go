package space_test

import (
	"slices"
	"testing"

	"stillroom/space"
)

func newSpace(t *testing.T, n int) *space.Space {
	t.Helper()
	s, err := space.New(n)
	if err != nil || s == nil {
		t.Fatalf("New(%d): %v, %v", n, s, err)
	}
	return s
}

// take takes so many blocks as are wanted, and tells whether it is these.
func take(t *testing.T, s *space.Space, want ...int) []int {
	t.Helper()
	l, err := s.Take(len(want))
	if err != nil || !slices.Equal(l, want) {
		t.Fatalf("Take(%d): %v, %v, want %v", len(want), l, err, want)
	}
	return l
}

func give(t *testing.T, s *space.Space, l ...int) {
	t.Helper()
	if err := s.Give(l); err != nil {
		t.Fatalf("Give(%v): %v", l, err)
	}
}

// holds tells whether so many blocks are free, and just these used.
func holds(t *testing.T, s *space.Space, free int, used ...int) {
	t.Helper()
	if s.Free() != free {
		t.Errorf("%d blocks are free, want %d", s.Free(), free)
	}
	if got := s.Used(); !slices.Equal(got, used) {
		t.Errorf("%v are used, want %v", got, used)
	}
}

// upTo are the numbers from 0 on, below n.
func upTo(n int) []int {
	var l []int
	for k := range n {
		l = append(l, k)
	}
	return l
}

// draw makes numbers from a number alone, so that each run sees the same ones.
type draw uint32

func (d *draw) below(n int) int {
	*d = *d*1664525 + 1013904223
	return int(*d>>16) % n
}
