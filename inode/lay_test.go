package inode_test

import (
	"slices"
	"testing"

	"stillroom/disk"
	"stillroom/inode"
)

// Bytes that are laid anew lie as those that were made, and are there to stay.
func TestLayAnew(t *testing.T) {
	for _, bytes := range []int{0, 1, 15, 16, 17, 48} {
		x := newTable(t, 6)
		put(t, x, 0, "first")
		put(t, x, 1, long(bytes))
		put(t, x, 2, "last")
		was := blocks(t, x)
		s, _ := x.Stat(1)
		for _, k := range s.Blocks {
			rot(t, x, k, 0)
			rot(t, x, k, 127)
		}
		inode.Lay(x.Disk(), s.Blocks, long(bytes))
		if n := x.Disk().Waits(); n != 0 {
			t.Errorf("%d writes wait", n)
		}
		x.Disk().Crash(nil)
		if now := blocks(t, x); !slices.Equal(now, was) {
			t.Errorf("%d bytes: %q, was %q", bytes, now, was)
		}
		reads(t, x, 1, long(bytes))
		stats(t, x, 1, s)
	}
}

// Neither too little room nor blocks that are none are any harm.
func TestLayWhereThereIsNoRoom(t *testing.T) {
	x := newTable(t, 2)
	inode.Lay(x.Disk(), []int{-1, 1, 2}, long(99))
	if got, want := blocks(t, x), []string{block(""), long(32)[16:]}; !slices.Equal(got, want) {
		t.Errorf("%q, want %q", got, want)
	}
	for _, d := range []*disk.Disk{nil, {}} {
		inode.Lay(d, []int{0, 1}, "a")
		inode.Lay(d, nil, "a")
	}
}
