package inode_test

import (
	"slices"
	"testing"

	"stillroom/api"
	"stillroom/disk"
	"stillroom/inode"
)

// file is what was made, and how often it is linked to; with no link it is
// not there.
type file struct {
	data   string
	exec   bool
	links  int
	blocks []int
}

// files tell a table slowly: all numbers that were ever there, and who has
// each block, sought anew at every look.
type files struct {
	blocks int
	list   []file
}

func (f *files) free() []int {
	l := upTo(f.blocks)
	for _, x := range f.list {
		l = slices.DeleteFunc(l, func(k int) bool { return slices.Contains(x.blocks, k) })
	}
	return l
}

func (f *files) all() []int {
	var l []int
	for n, x := range f.list {
		if x.links > 0 {
			l = append(l, n)
		}
	}
	return l
}

func (f *files) has(n int) bool { return slices.Contains(f.all(), n) }

// made is which number a new one must have, or the error.
func (f *files) made(data string, exec bool) (int, error) {
	free, need := f.free(), 0
	for need*api.BlockSize < len(data) {
		need++
	}
	if len(data) > api.MaxData {
		return 0, api.ErrBound
	}
	if need > len(free) {
		return 0, api.ErrFull
	}
	n := 0
	for f.has(n) {
		n++
	}
	if n == len(f.list) {
		f.list = append(f.list, file{})
	}
	f.list[n] = file{data, exec, 1, free[:need]}
	return n, nil
}

func (f *files) linked(n, more int) error {
	if !f.has(n) {
		return api.ErrNone
	}
	x := &f.list[n]
	x.links += more
	if x.links == 0 {
		*x = file{}
	}
	return nil
}

// both do the same to a table and to its files.
func both(t *testing.T, r *draw, x *inode.Table, f *files) {
	t.Helper()
	n := r.below(len(f.list)+2) - 1
	switch r.below(7) {
	case 0, 1:
		data, exec := r.text(r.below(f.blocks*api.BlockSize/2+2)), r.below(2) == 0
		want, wrong := f.made(data, exec)
		if got, err := x.Make(data, exec); got != want || err != wrong {
			t.Fatalf("Make of %d bytes: %d, %v, want %d, %v", len(data), got, err, want, wrong)
		}
	case 2, 3:
		wrong := f.linked(n, 1)
		if err := x.Link(n); err != wrong {
			t.Fatalf("Link(%d): %v, want %v", n, err, wrong)
		}
	case 4, 5:
		wrong := f.linked(n, -1)
		if err := x.Unlink(n); err != wrong {
			t.Fatalf("Unlink(%d): %v, want %v", n, err, wrong)
		}
	default:
		x.Disk().Crash(nil)
	}
}

// told: P72: what was made is read, and is what it was.
func (f *files) told(t *testing.T, x *inode.Table) {
	t.Helper()
	holds(t, x, len(f.free()), f.all()...)
	for n, y := range f.list {
		if y.links == 0 {
			readFails(t, x, n, api.ErrNone)
			continue
		}
		reads(t, x, n, y.data)
		stats(t, x, n, inode.Stat{Bytes: len(y.data), Links: y.links, Exec: y.exec, Blocks: y.blocks, Sum: disk.Sum(y.data)})
	}
}

func TestWhatWasMadeIsRead(t *testing.T) {
	var r draw = 72
	for _, n := range []int{1, 2, 5, 16, 60, api.MaxBlocks} {
		x, f := newTable(t, n), &files{blocks: n}
		for range 400 {
			both(t, &r, x, f)
			f.told(t, x)
			if t.Failed() {
				t.FailNow()
			}
		}
	}
}
