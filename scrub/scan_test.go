package scrub_test

import (
	"testing"

	"stillroom/api"
	"stillroom/inode"
	"stillroom/scrub"
)

func TestScan(t *testing.T) {
	x := newTable(t, 9, "xy", long(20), "z")
	scans(t, x)
	rot(t, x, 1, 7)
	scans(t, x, 1)
}

// Many inodes, and a map behind them: told in order each time.
func TestScanRises(t *testing.T) {
	var texts []string
	var want []int
	for range 40 {
		texts = append(texts, "data")
	}
	x := newTable(t, 50, texts...)
	for n := 38; n >= 0; n -= 2 {
		rot(t, x, n, n%32)
	}
	for n := 0; n < 40; n += 2 {
		want = append(want, n)
	}
	for range 8 {
		scans(t, x, want...)
	}
}

// The order is that of the inodes' numbers, not of their blocks'.
func TestScanRisesByNumbers(t *testing.T) {
	x := newTable(t, 9, long(16), "b", "c")
	unlink(t, x, 0)
	if n, err := x.Make(long(33), false); n != 0 || err != nil {
		t.Fatalf("Make: %d, %v", n, err)
	}
	if s, _ := x.Stat(0); s.Blocks[1] != 3 {
		t.Fatalf("blocks %v", s.Blocks)
	}
	rot(t, x, 4, 0)
	rot(t, x, 1, 0)
	scans(t, x, 0, 1)
}

func TestScanWithoutInodes(t *testing.T) {
	x := newTable(t, 2)
	scans(t, x)
	rot(t, x, 0, 0)
	scans(t, x)
}

func TestScanOfNil(t *testing.T) {
	if l := scrub.Scan(nil); len(l) != 0 {
		t.Errorf("%v", l)
	}
	if l := scrub.Scan(&inode.Table{}); len(l) != 0 {
		t.Errorf("%v", l)
	}
}

// It has no block that could rot.
func TestScanOfAFileWithoutBytes(t *testing.T) {
	x := newTable(t, 1, "", "")
	for bit := range blockBits {
		rot(t, x, 0, bit)
		scans(t, x)
	}
}

// Each bit of each block of a file counts, and none of what fills up the last one.
func TestScanOfEachBit(t *testing.T) {
	for _, bytes := range []int{1, api.BlockSize - 1, api.BlockSize, api.BlockSize + 1, 3*api.BlockSize - 5} {
		x := newTable(t, 6, "first", long(bytes), "last")
		s, _ := x.Stat(1)
		for i, k := range s.Blocks {
			for bit := range blockBits {
				rot(t, x, k, bit)
				if i*blockBits+bit < 8*bytes {
					scans(t, x, 1)
				} else {
					scans(t, x)
				}
				rot(t, x, k, bit)
				scans(t, x)
			}
		}
	}
}

func TestScanOfAFreeBlockThatRots(t *testing.T) {
	x := newTable(t, 4, "a", "b", "c")
	unlink(t, x, 1)
	for _, k := range []int{1, 3} {
		for bit := range blockBits {
			rot(t, x, k, bit)
		}
	}
	scans(t, x)
}

// What rotted and then went is told no more; what is made in its place is well.
func TestScanOfWhatWent(t *testing.T) {
	x := newTable(t, 3, "a", "b")
	rot(t, x, 0, 0)
	scans(t, x, 0)
	unlink(t, x, 0)
	scans(t, x)
	if n, err := x.Make("c", false); n != 0 || err != nil {
		t.Fatalf("Make: %d, %v", n, err)
	}
	scans(t, x)
}

// A bit that rots where a write waits is turned in both: whatever a crash
// keeps, it can't be read.
func TestScanOfABitThatRotsWhileAWriteWaits(t *testing.T) {
	for _, keep := range [][]int{nil, {0}} {
		x := newTable(t, 2, "a", "b")
		write(t, x, 1, block("b"))
		scans(t, x)
		rot(t, x, 1, 5)
		scans(t, x, 1)
		x.Disk().Crash(keep)
		scans(t, x, 1)
		rot(t, x, 1, 5)
		scans(t, x)
	}
}

// A write of another hand is what is read, as long as it is there.
func TestScanOfAWriteThatWaits(t *testing.T) {
	x := newTable(t, 2, "a", "b")
	write(t, x, 0, block("b"))
	scans(t, x, 0)
	x.Disk().Crash(nil)
	scans(t, x)
	rot(t, x, 0, 0)
	write(t, x, 0, block("a"))
	scans(t, x)
	x.Disk().Crash(nil)
	scans(t, x, 0)
}

// Sums tell what rotted, not bytes: bits that lie as those of the polynomial
// do, with its highest power ahead, leave every sum as it is.
func TestScanGoesBySums(t *testing.T) {
	const pattern = 1 | 0xEDB88320<<1
	x := newTable(t, 1, "hello")
	for bit := range 32 {
		if pattern>>bit&1 == 1 {
			rot(t, x, 0, bit)
			scans(t, x, 0)
		}
	}
	rot(t, x, 0, 32)
	scans(t, x)
	mendFails(t, x, 0, "hello", api.ErrExist)
}

// P4: each list is new memory.
func TestScanIsNewMemory(t *testing.T) {
	x := newTable(t, 2, "a", "b")
	rot(t, x, 0, 0)
	rot(t, x, 1, 0)
	l := scrub.Scan(x)
	l[0], l[1] = 7, 8
	_ = append(l, 9)
	scans(t, x, 0, 1)
}
