package disk_test

import (
	"slices"
	"testing"

	"stillroom/api"
	"stillroom/disk"
)

// log is a disk told slowly: what is there to stay, and each write that waits,
// gone through from the first one at every look.
type log struct {
	stays []string
	at    []int
	texts []string
}

// after is the disk with those of the writes made that are wanted.
func (l *log) after(wanted func(i int) bool) []string {
	now := slices.Clone(l.stays)
	for i, k := range l.at {
		if wanted(i) {
			now[k] = l.texts[i]
		}
	}
	return now
}

func (l *log) now() []string { return l.after(func(int) bool { return true }) }

func (l *log) settle(now []string) { *l = log{stays: now} }

func (l *log) rot(k, bit int) {
	l.stays[k] = turned(l.stays[k], bit)
	for i := range l.at {
		if l.at[i] == k {
			l.texts[i] = turned(l.texts[i], bit)
		}
	}
}

// both do the same to a disk and to its log.
func both(t *testing.T, r *draw, d *disk.Disk, l *log) {
	t.Helper()
	k := r.below(d.Len())
	switch r.below(12) {
	case 0:
		d.Barrier()
		l.settle(l.now())
	case 1:
		keep := r.numbers(len(l.at))
		d.Crash(keep)
		l.settle(l.after(func(i int) bool { return slices.Contains(keep, i) }))
	case 2, 3, 4:
		bit := r.below(8 * api.BlockSize)
		rot(t, d, k, bit)
		l.rot(k, bit)
	default:
		s := r.text(api.BlockSize)
		write(t, d, k, s)
		l.at, l.texts = append(l.at, k), append(l.texts, s)
	}
}

func empty(n int) *log {
	l := &log{stays: make([]string, n)}
	for k := range l.stays {
		l.stays[k] = block("")
	}
	return l
}

func TestAsItsLogTells(t *testing.T) {
	var r draw
	for n := 1; n <= 6; n++ {
		d, l := newDisk(t, n), empty(n)
		for range 2000 {
			both(t, &r, d, l)
			holds(t, d, len(l.at), l.now()...)
		}
	}
}

// P53: behind a barrier a crash changes nothing, whatever was done ahead and
// whatever is kept.
func TestCrashBehindABarrier(t *testing.T) {
	var r draw = 53
	for range 500 {
		d := newDisk(t, 1+r.below(5))
		l := empty(d.Len())
		for range r.below(30) {
			both(t, &r, d, l)
		}
		waited, want := d.Waits(), all(t, d)
		d.Barrier()
		if got := all(t, d); !slices.Equal(got, want) {
			t.Fatalf("a barrier made %q of %q", got, want)
		}
		for _, keep := range [][]int{nil, {0}, {waited - 1}, r.numbers(waited)} {
			d.Crash(keep)
			holds(t, d, 0, want...)
		}
	}
}
