package scrub_test

import (
	"math"
	"slices"
	"strings"
	"testing"

	"stillroom/api"
	"stillroom/disk"
	"stillroom/inode"
	"stillroom/scrub"
)

func TestMend(t *testing.T) {
	x := newTable(t, 9, "xy", "hello")
	rot(t, x, 0, 9)
	mends(t, x, 0, "xy")
	scans(t, x)
	mendFails(t, x, 0, "xy", api.ErrExist)
	reads(t, x, 1, "hello")
}

// One that is mended leaves the others as they rotted.
func TestMendOneByOne(t *testing.T) {
	x := newTable(t, 9, "a", "b", "c")
	for k := range 3 {
		rot(t, x, k, 0)
	}
	mends(t, x, 1, "b")
	scans(t, x, 0, 2)
	mends(t, x, 2, "c")
	scans(t, x, 0)
	mends(t, x, 0, "a")
	scans(t, x)
}

// Of several blocks, one bit is turned: in the first one, between, in the last
// one. The disk is as it was, also what fills up.
func TestMendEachBlock(t *testing.T) {
	for _, bytes := range []int{1, api.BlockSize - 1, api.BlockSize, api.BlockSize + 1, 5*api.BlockSize - 3, api.MaxData} {
		x := newTable(t, 130, "first", long(bytes), "last")
		was := all(x)
		s, _ := x.Stat(1)
		for _, k := range s.Blocks {
			rot(t, x, k, 3)
			scans(t, x, 1)
			mends(t, x, 1, long(bytes))
			if now := all(x); now != was {
				t.Errorf("%d bytes, block %d: %s, was %s", bytes, k, now, was)
			}
		}
	}
}

func TestMendOfAllBits(t *testing.T) {
	x := newTable(t, 9, "first", long(40), "last")
	was := all(x)
	for k := 1; k < 4; k++ {
		for bit := range blockBits {
			rot(t, x, k, bit)
		}
	}
	scans(t, x, 1)
	mends(t, x, 1, long(40))
	if now := all(x); now != was {
		t.Errorf("%s, was %s", now, was)
	}
}

// Blocks of an inode need not lie one behind the other.
func TestMendInBlocksApart(t *testing.T) {
	x := newTable(t, 6, "a", "b", "c", "d")
	unlink(t, x, 0)
	unlink(t, x, 2)
	if n, err := x.Make(long(50), true); n != 0 || err != nil {
		t.Fatalf("Make: %d, %v", n, err)
	}
	s, _ := x.Stat(0)
	if !slices.Equal(s.Blocks, []int{0, 2, 4, 5}) {
		t.Fatalf("blocks %v", s.Blocks)
	}
	was := all(x)
	for _, k := range s.Blocks {
		rot(t, x, k, 0)
	}
	mends(t, x, 0, long(50))
	if now := all(x); now != was {
		t.Errorf("%s, was %s", now, was)
	}
}

// Links, Exec, blocks and the sum stay, and what is free.
func TestMendChangesNoStat(t *testing.T) {
	x := newTable(t, 6, "a")
	if n, err := x.Make(long(20), true); n != 1 || err != nil {
		t.Fatalf("Make: %d, %v", n, err)
	}
	for range 3 {
		if err := x.Link(1); err != nil {
			t.Fatal(err)
		}
	}
	was := all(x)
	rot(t, x, 2, 8)
	mends(t, x, 1, long(20))
	if now := all(x); now != was {
		t.Errorf("%s, was %s", now, was)
	}
	if s, _ := x.Stat(1); s.Links != 4 || !s.Exec {
		t.Errorf("%v", s)
	}
}

// What rotted elsewhere stays as it is, in a block that is free too.
func TestMendWritesNoOtherBlock(t *testing.T) {
	x := newTable(t, 5, "a", "b", "c")
	unlink(t, x, 1)
	for k := range 5 {
		rot(t, x, k, 1)
	}
	was := blocks(x)
	mends(t, x, 2, "c")
	was[2] = block("c")
	if now := blocks(x); !slices.Equal(now, was) {
		t.Errorf("%q, want %q", now, was)
	}
}

func TestMendBehindACrash(t *testing.T) {
	x := newTable(t, 9, "a", long(40))
	rot(t, x, 1, 0)
	rot(t, x, 3, 0)
	mends(t, x, 1, long(40))
	if n := x.Disk().Waits(); n != 0 {
		t.Errorf("%d writes wait", n)
	}
	x.Disk().Crash(nil)
	reads(t, x, 1, long(40))
	scans(t, x)
}

// The barrier is behind the writes, for all that wait.
func TestMendBehindAWriteThatWaits(t *testing.T) {
	x := newTable(t, 4, "a", "b")
	write(t, x, 1, block("x"))
	write(t, x, 3, block("free"))
	rot(t, x, 1, 3)
	mends(t, x, 1, "b")
	x.Disk().Crash(nil)
	reads(t, x, 1, "b")
	if got := blocks(x)[3]; x.Disk().Waits() != 0 || got != block("free") {
		t.Errorf("%d wait, %q", x.Disk().Waits(), got)
	}
}

func TestMendOfABitThatRotsWhileAWriteWaits(t *testing.T) {
	x := newTable(t, 4, "a", long(20))
	write(t, x, 2, block(long(20)[16:]))
	rot(t, x, 2, 0)
	scans(t, x, 1)
	mends(t, x, 1, long(20))
	x.Disk().Crash(nil)
	reads(t, x, 1, long(20))
	scans(t, x)
}

func TestMendOfBitsThatAreTurnedTwice(t *testing.T) {
	x := newTable(t, 4, long(20))
	rot(t, x, 1, 0)
	rot(t, x, 0, 4)
	rot(t, x, 1, 0)
	scans(t, x, 0)
	rot(t, x, 0, 4)
	scans(t, x)
	mendFails(t, x, 0, long(20), api.ErrExist)
}

// What was mended may rot anew, and be mended anew.
func TestMendAgain(t *testing.T) {
	x := newTable(t, 4, "a", "b")
	for bit := range 8 {
		rot(t, x, 1, bit)
		scans(t, x, 1)
		mends(t, x, 1, "b")
		scans(t, x)
	}
}

func TestMendOfNil(t *testing.T) {
	for _, n := range []int{-1, 0, 1, math.MaxInt, math.MinInt} {
		for _, s := range []string{"", "xy", long(api.MaxData + 1)} {
			if err := scrub.Mend(nil, n, s); err != api.ErrShape {
				t.Errorf("Mend(nil, %d): %v", n, err)
			}
			if err := scrub.Mend(&inode.Table{}, n, s); err != api.ErrNone {
				t.Errorf("Mend(%d) of a table without a disk: %v", n, err)
			}
		}
	}
}

func TestMendOfNoInode(t *testing.T) {
	x := newTable(t, 4, "a", "b", "")
	rot(t, x, 1, 0)
	unlink(t, x, 1)
	for _, n := range []int{-1, 1, 3, 4, math.MaxInt, math.MinInt} {
		for _, s := range []string{"", "a", "b", "c", long(99)} {
			mendFails(t, x, n, s, api.ErrNone)
		}
	}
	mendFails(t, newTable(t, 4), 0, "", api.ErrNone)
}

// wrongs are of another length, or of the same length with another sum.
func wrongs(data string) []string {
	l := []string{
		data + "x", data + "\x00", "x" + data, data + data + "x",
		block("") + data, long(api.MaxData + 1), strings.Repeat("x", 100000),
	}
	if data != "" {
		l = append(l, "", data[1:], data[:len(data)-1], data[1:]+"\xff", "\xff"+data[1:])
	}
	return l
}

// Wrong bytes are told ahead of whether it can be read.
func TestMendWithWrongBytes(t *testing.T) {
	for _, data := range []string{"", "a", "hello", long(api.BlockSize), long(40)} {
		x := newTable(t, 9, "first", data)
		for _, s := range wrongs(data) {
			mendFails(t, x, 1, s, api.ErrSum)
		}
		mendFails(t, x, 1, data, api.ErrExist)
		if data == "" {
			continue
		}
		rot(t, x, 1, 0)
		for _, s := range wrongs(data) {
			mendFails(t, x, 1, s, api.ErrSum)
		}
		scans(t, x, 1)
		mends(t, x, 1, data)
	}
}

// The bytes as they rotted are not those that are asked for.
func TestMendWithWhatRotted(t *testing.T) {
	x := newTable(t, 2, "a")
	rot(t, x, 0, 1)
	mendFails(t, x, 0, "c", api.ErrSum)
	scans(t, x, 0)
}

// Of another length, and with the same sum.
func TestMendWithTheSumOfAnotherLength(t *testing.T) {
	for _, data := range []string{"", "a", "hello", long(api.BlockSize), long(40)} {
		x := newTable(t, 9, "first", data)
		if data != "" {
			rot(t, x, 1, 0)
		}
		sum := disk.Sum(data)
		for _, s := range []string{withSum("", sum), withSum(data, sum), withSum(data+data, sum), withSum(long(api.MaxData), sum)} {
			if disk.Sum(s) != sum {
				t.Fatalf("the sum of %q is another one", s)
			}
			if len(s) != len(data) {
				mendFails(t, x, 1, s, api.ErrSum)
			}
		}
	}
}

// Sums tell what the bytes were: others with as many bytes and that sum are
// taken for them.
func TestMendGoesBySums(t *testing.T) {
	x := newTable(t, 9, "first", "hello")
	rot(t, x, 1, 0)
	mends(t, x, 1, withSum("j", disk.Sum("hello")))
	scans(t, x)
}

// The bytes of another inode are no help, but where they are alike.
func TestMendWithBytesOfAnother(t *testing.T) {
	x := newTable(t, 9, "abc", "abd", "abc")
	rot(t, x, 0, 0)
	s, _ := x.Read(1)
	mendFails(t, x, 0, s, api.ErrSum)
	s, _ = x.Read(2)
	mends(t, x, 0, s)
}

func TestMendOfWhatCanBeRead(t *testing.T) {
	x := newTable(t, 9, "xy", "", long(40))
	for n, s := range []string{"xy", "", long(40)} {
		mendFails(t, x, n, s, api.ErrExist)
	}
	// what fills up a block may rot unseen: it stays so
	rot(t, x, 0, blockBits-1)
	rot(t, x, 3, 8*8)
	mendFails(t, x, 0, "xy", api.ErrExist)
	mendFails(t, x, 2, long(40), api.ErrExist)
}

// With an error nothing is written, and there is no barrier either: what waits
// goes on waiting, and a crash takes it away.
func TestMendThatFailsIsNoBarrier(t *testing.T) {
	x := newTable(t, 4, "a", "b")
	rot(t, x, 1, 0)
	write(t, x, 3, block("free"))
	mendFails(t, x, 0, "a", api.ErrExist)
	mendFails(t, x, 1, "a", api.ErrSum)
	mendFails(t, x, 1, "bb", api.ErrSum)
	mendFails(t, x, 2, "b", api.ErrNone)
	if n := x.Disk().Waits(); n != 1 {
		t.Errorf("%d writes wait", n)
	}
	x.Disk().Crash(nil)
	if got := blocks(x)[3]; got != block("") {
		t.Errorf("%q", got)
	}
	scans(t, x, 1)
}

// A good write that waits over what rotted can be read: nothing is written, and
// a crash that takes it away brings back what rotted.
func TestMendOfAWriteThatWaitsOverRot(t *testing.T) {
	x := newTable(t, 2, "a")
	rot(t, x, 0, 0)
	write(t, x, 0, block("a"))
	mendFails(t, x, 0, "a", api.ErrExist)
	x.Disk().Crash(nil)
	scans(t, x, 0)
	mends(t, x, 0, "a")
	x.Disk().Crash(nil)
	reads(t, x, 0, "a")
}

// The disk is laid open: also with fewer blocks behind it, mending ends well.
func TestMendOnAShorterDisk(t *testing.T) {
	x := newTable(t, 3, long(40))
	*x.Disk() = *newTable(t, 1).Disk()
	_ = scrub.Mend(x, 0, long(40))
	scans(t, x, 0)
}
