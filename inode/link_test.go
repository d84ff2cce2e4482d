package inode_test

import (
	"slices"
	"testing"

	"stillroom/api"
	"stillroom/disk"
	"stillroom/inode"
)

func TestLinksAreCounted(t *testing.T) {
	x := newTable(t, 3)
	put(t, x, 0, long(40))
	want := inode.Stat{Bytes: 40, Links: 1, Blocks: []int{0, 1, 2}, Sum: disk.Sum(long(40))}
	for range 5 {
		link(t, x, 0)
		want.Links++
		stats(t, x, 0, want)
	}
	for range 5 {
		unlink(t, x, 0)
		want.Links--
		stats(t, x, 0, want)
		reads(t, x, 0, long(40))
		holds(t, x, 0, 0)
	}
	unlink(t, x, 0)
	holds(t, x, 3)
	noSuch(t, x, 0)
}

func TestLinksOfOneAlone(t *testing.T) {
	x := newTable(t, 3)
	for n := range 3 {
		put(t, x, n, "a")
	}
	link(t, x, 1)
	for n, links := range []int{1, 2, 1} {
		stats(t, x, n, inode.Stat{Bytes: 1, Links: links, Blocks: []int{n}, Sum: disk.Sum("a")})
	}
	unlink(t, x, 0)
	holds(t, x, 1, 1, 2)
	unlink(t, x, 1)
	holds(t, x, 1, 1, 2)
	stats(t, x, 1, inode.Stat{Bytes: 1, Links: 1, Blocks: []int{1}, Sum: disk.Sum("a")})
}

// The last link goes: another one gets its blocks and its number, and nothing
// of what it was.
func TestBlocksAreFreeAgain(t *testing.T) {
	x := newTable(t, 3)
	if _, err := x.Make(long(48), true); err != nil {
		t.Fatal(err)
	}
	link(t, x, 0)
	unlink(t, x, 0)
	makeFails(t, x, "a", api.ErrFull)
	unlink(t, x, 0)
	holds(t, x, 3)
	put(t, x, 0, long(33))
	stats(t, x, 0, inode.Stat{Bytes: 33, Links: 1, Blocks: []int{0, 1, 2}, Sum: disk.Sum(long(33))})
	reads(t, x, 0, long(33))
}

// Links are the table's alone: nothing of them is written.
func TestLinksLeaveTheDisk(t *testing.T) {
	x := newTable(t, 4)
	put(t, x, 0, long(40))
	x.Disk().Write(3, block("waits"))
	was := blocks(t, x)
	link(t, x, 0)
	unlink(t, x, 0)
	unlink(t, x, 0)
	if x.Disk().Waits() != 1 || !slices.Equal(blocks(t, x), was) {
		t.Errorf("%d writes wait, %q, want %q", x.Disk().Waits(), blocks(t, x), was)
	}
}

// What rotted is unlinked as any other.
func TestUnlinkOfWhatRotted(t *testing.T) {
	x := newTable(t, 2)
	put(t, x, 0, long(20))
	rot(t, x, 0, 0)
	link(t, x, 0)
	unlink(t, x, 0)
	readFails(t, x, 0, api.ErrSum)
	unlink(t, x, 0)
	holds(t, x, 2)
	put(t, x, 0, long(20))
	reads(t, x, 0, long(20))
}

func TestStatIsNewMemory(t *testing.T) {
	x := newTable(t, 4)
	put(t, x, 0, long(40))
	want := inode.Stat{Bytes: 40, Links: 1, Blocks: []int{0, 1, 2}, Sum: disk.Sum(long(40))}
	s, _ := x.Stat(0)
	s.Blocks[0], s.Blocks[2] = 3, 3
	_ = append(s.Blocks[:1], 3)
	stats(t, x, 0, want)
	reads(t, x, 0, long(40))
	s, _ = x.Stat(0)
	link(t, x, 0)
	if !same(s, want) {
		t.Errorf("a later link shows: %v", s)
	}
}

func TestAllIsNewMemory(t *testing.T) {
	x := newTable(t, 4)
	for n := range 4 {
		put(t, x, n, "a")
	}
	l := x.All()
	l[0], l[3] = 9, 9
	_ = append(l[:1], 9)
	holds(t, x, 0, 0, 1, 2, 3)
}

// So many that no order but the numbers' own would come out rising.
func TestAllRises(t *testing.T) {
	x := newTable(t, 1)
	for n := range 300 {
		put(t, x, n, "")
	}
	var want []int
	for n := range 300 {
		if n%7 == 3 {
			unlink(t, x, n)
		} else {
			want = append(want, n)
		}
	}
	holds(t, x, 1, want...)
	put(t, x, 3, "")
	put(t, x, 10, "")
}
