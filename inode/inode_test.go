package inode_test

import (
	"math"
	"slices"
	"strings"
	"testing"

	"stillroom/api"
	"stillroom/disk"
	"stillroom/inode"
)

func TestNew(t *testing.T) {
	for _, n := range []int{1, 2, api.MaxBlocks} {
		holds(t, newTable(t, n), n)
	}
	if x, err := inode.New(nil); x != nil || err != api.ErrShape {
		t.Errorf("New(nil): %v, %v", x, err)
	}
}

// What stands on the disk, or waits for it, is none of a new table's inodes.
func TestNewLeavesTheDisk(t *testing.T) {
	d, err := disk.New(2)
	if err != nil {
		t.Fatal(err)
	}
	d.Write(0, block("a"))
	d.Barrier()
	d.Write(1, block("b"))
	x, err := inode.New(d)
	if err != nil {
		t.Fatal(err)
	}
	holds(t, x, 2)
	if x.Disk() != d {
		t.Error("Disk is another one")
	}
	if d.Waits() != 1 || !slices.Equal(blocks(t, x), []string{block("a"), block("b")}) {
		t.Errorf("%d writes wait, %q", d.Waits(), blocks(t, x))
	}
}

func TestMake(t *testing.T) {
	const size = api.BlockSize
	x := newTable(t, 12)
	var next int
	for n, bytes := range []int{5, 0, size, size + 1, 1, 2*size - 1, 2 * size} {
		data, exec := long(bytes), n%2 == 1
		got, err := x.Make(data, exec)
		if got != n || err != nil {
			t.Fatalf("Make of %d bytes: %d, %v, want %d", bytes, got, err, n)
		}
		var l []int
		for len(l)*size < bytes {
			l = append(l, next)
			next++
		}
		stats(t, x, n, inode.Stat{Bytes: bytes, Links: 1, Exec: exec, Blocks: l, Sum: disk.Sum(data)})
		reads(t, x, n, data)
		holds(t, x, 12-next, upTo(n+1)...)
	}
}

func TestMakeOfNoBytes(t *testing.T) {
	x := newTable(t, 1)
	put(t, x, 0, long(api.BlockSize))
	put(t, x, 1, "")
	put(t, x, 2, "")
	holds(t, x, 0, 0, 1, 2)
	for n := 1; n <= 2; n++ {
		stats(t, x, n, inode.Stat{Links: 1})
		reads(t, x, n, "")
	}
	unlink(t, x, 1)
	holds(t, x, 0, 0, 2)
	readFails(t, x, 1, api.ErrNone)
}

func TestMakeOfTheMostBytes(t *testing.T) {
	x := newTable(t, api.MaxBlocks)
	data := long(api.MaxData)
	put(t, x, 0, data)
	reads(t, x, 0, data)
	holds(t, x, api.MaxBlocks-api.MaxData/api.BlockSize, 0)
	for _, n := range []int{api.MaxData + 1, api.MaxData + api.BlockSize, 100 * api.MaxData} {
		makeFails(t, x, long(n), api.ErrBound)
	}
	holds(t, x, api.MaxBlocks-api.MaxData/api.BlockSize, 0)
	reads(t, x, 0, data)
}

func TestMakeWritesOneBehindTheOther(t *testing.T) {
	x := newTable(t, 5)
	data := long(2*api.BlockSize + 3)
	put(t, x, 0, "a")
	put(t, x, 1, data)
	want := []string{block("a"), data[:16], data[16:32], block(data[32:]), block("")}
	if got := blocks(t, x); !slices.Equal(got, want) {
		t.Errorf("%q, want %q", got, want)
	}
}

// The zeros that fill up a block go over what another one left there.
func TestMakeFillsUpOverOldBytes(t *testing.T) {
	x := newTable(t, 2)
	put(t, x, 0, long(2*api.BlockSize))
	unlink(t, x, 0)
	put(t, x, 0, "ab")
	want := []string{block("ab"), long(2 * api.BlockSize)[api.BlockSize:]}
	if got := blocks(t, x); !slices.Equal(got, want) {
		t.Errorf("%q, want %q", got, want)
	}
}

func TestMakeEndsWithABarrier(t *testing.T) {
	for _, data := range []string{"", "a", long(40)} {
		x := newTable(t, 4)
		x.Disk().Write(3, block("waits"))
		put(t, x, 0, data)
		if x.Disk().Waits() != 0 {
			t.Errorf("%d writes wait", x.Disk().Waits())
		}
		x.Disk().Crash(nil)
		reads(t, x, 0, data)
		if got := blocks(t, x)[3]; got != block("waits") {
			t.Errorf("the write that waited is %q", got)
		}
	}
}

func TestMakeTakesBlocksThatLieApart(t *testing.T) {
	x := newTable(t, 6)
	for n := range 5 {
		put(t, x, n, long(n+1))
	}
	unlink(t, x, 0)
	unlink(t, x, 2)
	data := long(3*api.BlockSize - 1)
	put(t, x, 0, data)
	stats(t, x, 0, inode.Stat{Bytes: len(data), Links: 1, Blocks: []int{0, 2, 5}, Sum: disk.Sum(data)})
	reads(t, x, 0, data)
	for _, n := range []int{1, 3, 4} {
		reads(t, x, n, long(n+1))
	}
	holds(t, x, 0, 0, 1, 3, 4)
}

func TestMakeTakesTheLeastNumber(t *testing.T) {
	x := newTable(t, 8)
	for n := range 5 {
		put(t, x, n, "a")
	}
	unlink(t, x, 3)
	unlink(t, x, 1)
	holds(t, x, 5, 0, 2, 4)
	put(t, x, 1, "b")
	put(t, x, 3, "")
	put(t, x, 5, "c")
	holds(t, x, 3, 0, 1, 2, 3, 4, 5)
	unlink(t, x, 5)
	put(t, x, 5, "d")
	reads(t, x, 1, "b")
	reads(t, x, 3, "")
	reads(t, x, 5, "d")
}

func TestJustRoomEnough(t *testing.T) {
	const size = api.BlockSize
	for _, bytes := range []int{1, size, size + 1, 5 * size, api.MaxData} {
		need := (bytes + size - 1) / size
		x := newTable(t, need+1)
		put(t, x, 0, long(size))
		put(t, x, 1, long(bytes))
		holds(t, x, 0, 0, 1)
		reads(t, x, 0, long(size))
		reads(t, x, 1, long(bytes))
		makeFails(t, x, "a", api.ErrFull)
	}
}

func TestOneBlockTooFew(t *testing.T) {
	x := newTable(t, 4)
	put(t, x, 0, "a")
	x.Disk().Write(2, block("waits"))
	was := blocks(t, x)
	makeFails(t, x, long(3*api.BlockSize+1), api.ErrFull)
	makeFails(t, x, long(api.MaxData), api.ErrFull)
	makeFails(t, x, long(api.MaxData+1), api.ErrBound)
	holds(t, x, 3, 0)
	if x.Disk().Waits() != 1 || !slices.Equal(blocks(t, x), was) {
		t.Errorf("%d writes wait, %q", x.Disk().Waits(), blocks(t, x))
	}
	put(t, x, 1, long(3*api.BlockSize))
	holds(t, x, 0, 0, 1)
	makeFails(t, x, "b", api.ErrFull)
	put(t, x, 2, "")
}

func TestBytesAreCountedNotRunes(t *testing.T) {
	x := newTable(t, api.MaxBlocks)
	data := strings.Repeat("é", api.MaxData/2)
	put(t, x, 0, data)
	reads(t, x, 0, data)
	makeFails(t, x, data+"x", api.ErrBound)
}

func TestExecIsKept(t *testing.T) {
	x := newTable(t, 2)
	for n, exec := range []bool{true, false} {
		x.Make("a", exec)
		link(t, x, n)
		stats(t, x, n, inode.Stat{Bytes: 1, Links: 2, Exec: exec, Blocks: []int{n}, Sum: disk.Sum("a")})
	}
}

// An inode of the same bytes is one of its own: what is alike is not sought here.
func TestWhatIsAlikeIsMadeTwice(t *testing.T) {
	x := newTable(t, 4)
	put(t, x, 0, long(20))
	put(t, x, 1, long(20))
	holds(t, x, 0, 0, 1)
	unlink(t, x, 0)
	holds(t, x, 2, 1)
	reads(t, x, 1, long(20))
}

func TestTablesAreApart(t *testing.T) {
	a, b := newTable(t, 2), newTable(t, 3)
	put(t, a, 0, "a")
	put(t, b, 0, "b")
	link(t, a, 0)
	unlink(t, b, 0)
	holds(t, a, 1, 0)
	holds(t, b, 3)
	reads(t, a, 0, "a")
}

// P1: numbers that are none, of a table that has some and of one that has not.
func TestNoSuch(t *testing.T) {
	full := newTable(t, 4)
	for n := range 3 {
		put(t, full, n, "a")
	}
	unlink(t, full, 1)
	none, _ := inode.New(nil)
	for _, x := range []*inode.Table{full, newTable(t, 1), none, {}} {
		free, all := x.Free(), x.All()
		for _, n := range []int{-1, 1, 3, 4, math.MaxInt, math.MinInt} {
			noSuch(t, x, n)
		}
		holds(t, x, free, all...)
	}
	stats(t, full, 0, inode.Stat{Bytes: 1, Links: 1, Blocks: []int{0}, Sum: disk.Sum("a")})
}

func noSuch(t *testing.T, x *inode.Table, n int) {
	t.Helper()
	readFails(t, x, n, api.ErrNone)
	if err := x.Link(n); err != api.ErrNone {
		t.Errorf("Link(%d): %v", n, err)
	}
	if err := x.Unlink(n); err != api.ErrNone {
		t.Errorf("Unlink(%d): %v", n, err)
	}
	if s, is := x.Stat(n); is || !same(s, inode.Stat{}) {
		t.Errorf("Stat(%d): %v, %v", n, s, is)
	}
}

// New answers a nil table with an error: a call of it does not panic either,
// nor one of a table that New did not make.
func TestNoTable(t *testing.T) {
	none, _ := inode.New(nil)
	for _, x := range []*inode.Table{none, {}} {
		for _, data := range []string{"", "a", long(api.MaxData)} {
			makeFails(t, x, data, api.ErrFull)
		}
		makeFails(t, x, long(api.MaxData+1), api.ErrBound)
		holds(t, x, 0)
		if x.Disk() != nil {
			t.Error("there is a disk")
		}
	}
}

func TestDiskWithoutBlocks(t *testing.T) {
	x, err := inode.New(&disk.Disk{})
	if err != nil || x == nil {
		t.Fatalf("New: %v, %v", x, err)
	}
	makeFails(t, x, "a", api.ErrFull)
	put(t, x, 0, "")
	reads(t, x, 0, "")
	holds(t, x, 0, 0)
	unlink(t, x, 0)
	holds(t, x, 0)
}
