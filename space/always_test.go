package space_test

import (
	"slices"
	"testing"

	"stillroom/api"
	"stillroom/space"
)

// owners tell of each block who has it: 0 is nobody.
type owners []int

func (o owners) of(who int) []int {
	var l []int
	for k, w := range o {
		if w == who {
			l = append(l, k)
		}
	}
	return l
}

func (o owners) used() []int {
	var l []int
	for k, w := range o {
		if w != 0 {
			l = append(l, k)
		}
	}
	return l
}

// taken: P62: what is given to one was nobody's, and the least of that.
func (o owners) taken(t *testing.T, s *space.Space, who, k int) {
	t.Helper()
	free := o.of(0)
	l, err := s.Take(k)
	if k > len(free) {
		if len(l) > 0 || err != api.ErrFull {
			t.Fatalf("Take(%d) where %d are free: %v, %v", k, len(free), l, err)
		}
		return
	}
	if err != nil || !slices.Equal(l, free[:k]) {
		t.Fatalf("Take(%d) where %v are free: %v, %v", k, free, l, err)
	}
	for _, k := range l {
		if o[k] != 0 {
			t.Fatalf("block %d is given to %d, and is of %d", k, who, o[k])
		}
		o[k] = who
	}
}

// given gives back some of what one has, in any order.
func (o owners) given(t *testing.T, r *draw, s *space.Space, who int) {
	t.Helper()
	l := o.of(who)
	for i := range l {
		j := r.below(i + 1)
		l[i], l[j] = l[j], l[i]
	}
	l = l[:r.below(len(l)+1)]
	give(t, s, l...)
	for _, k := range l {
		o[k] = 0
	}
}

// refused: a list of any numbers, held against the words of P60.
func (o owners) refused(t *testing.T, r *draw, s *space.Space) {
	t.Helper()
	var l []int
	for range r.below(6) {
		l = append(l, r.below(len(o)+2)-1)
	}
	var want error
	for i, k := range l {
		if k < 0 || k >= len(o) {
			want = api.ErrBound
			break
		}
		if o[k] == 0 || slices.Contains(l[:i], k) {
			want = api.ErrNone
		}
	}
	if want == nil {
		return
	}
	if err := s.Give(l); err != want {
		t.Fatalf("Give(%v) of %v: %v, want %v", l, o, err, want)
	}
}

func TestNoBlockIsGivenToTwo(t *testing.T) {
	var r draw = 62
	for _, n := range []int{1, 2, 3, 8, 40, api.MaxBlocks} {
		s, o := newSpace(t, n), make(owners, n)
		for range 1500 {
			who := 1 + r.below(4)
			switch r.below(5) {
			case 0, 1:
				o.taken(t, s, who, r.below(n/2+2))
			case 2:
				o.given(t, &r, s, who)
			case 3:
				o.refused(t, &r, s)
			default:
				s = s.Copy()
			}
			holds(t, s, n-len(o.used()), o.used()...)
		}
	}
}

// P62: all that is given back may be taken, as often as one likes.
func TestWhatIsGivenBackMayBeTaken(t *testing.T) {
	var r draw = 7
	s, o := newSpace(t, 30), make(owners, 30)
	for range 300 {
		o.taken(t, s, 1, len(o.of(0)))
		holds(t, s, 0, upTo(30)...)
		o.given(t, &r, s, 1)
		holds(t, s, len(o.of(0)), o.of(1)...)
	}
}
