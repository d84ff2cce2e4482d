package inode_test

import (
	"testing"

	"stillroom/api"
	"stillroom/disk"
	"stillroom/inode"
)

// Each bit of each byte counts, and none of what fills up the last block.
func TestRotOfEachBit(t *testing.T) {
	const size = api.BlockSize
	for _, bytes := range []int{0, 1, size - 1, size, size + 1, 3 * size} {
		x := newTable(t, 5)
		put(t, x, 0, "first")
		put(t, x, 1, long(bytes))
		was, _ := x.Stat(1)
		for bit := range 8 * size * 4 {
			k, b := 1+bit/(8*size), bit%(8*size)
			rot(t, x, k, b)
			if bit < 8*bytes {
				readFails(t, x, 1, api.ErrSum)
			} else {
				reads(t, x, 1, long(bytes))
			}
			reads(t, x, 0, "first")
			stats(t, x, 1, was)
			rot(t, x, k, b)
			reads(t, x, 1, long(bytes))
		}
	}
}

func TestRotChangesNoNumber(t *testing.T) {
	x := newTable(t, 3)
	put(t, x, 0, long(20))
	rot(t, x, 1, 3)
	holds(t, x, 1, 0)
	stats(t, x, 0, inode.Stat{Bytes: 20, Links: 1, Blocks: []int{0, 1}, Sum: disk.Sum(long(20))})
	put(t, x, 1, "a")
	readFails(t, x, 0, api.ErrSum)
	reads(t, x, 1, "a")
}

// What is made where bits rotted ahead is written over them.
func TestRotAheadOfMake(t *testing.T) {
	x := newTable(t, 2)
	for bit := range 8 * api.BlockSize {
		rot(t, x, 0, bit)
		rot(t, x, 1, bit)
	}
	put(t, x, 0, long(20))
	reads(t, x, 0, long(20))
	if got := blocks(t, x)[1]; got != block(long(20)[16:]) {
		t.Errorf("%q", got)
	}
}

// A write that waits is what is read: it shows, and a crash takes it away.
func TestWriteOfAnotherIsSeen(t *testing.T) {
	x := newTable(t, 2)
	put(t, x, 0, long(20))
	x.Disk().Write(0, block("b"))
	readFails(t, x, 0, api.ErrSum)
	x.Disk().Crash(nil)
	reads(t, x, 0, long(20))
}

// The disk is laid open: also with other blocks behind it, reading ends well.
func TestDiskIsChangedForAShorterOne(t *testing.T) {
	x := newTable(t, 3)
	put(t, x, 0, long(40))
	*x.Disk() = *newTable(t, 1).Disk()
	readFails(t, x, 0, api.ErrSum)
	unlink(t, x, 0)
	holds(t, x, 3)
}
