package disk_test

import (
	"math"
	"strings"
	"testing"

	"stillroom/api"
	"stillroom/disk"
)

func TestNew(t *testing.T) {
	for _, n := range []int{1, 2, 3, api.MaxBlocks - 1, api.MaxBlocks} {
		d := newDisk(t, n)
		if d.Len() != n {
			t.Errorf("New(%d) has %d blocks", n, d.Len())
		}
		holds(t, d, 0, make([]string, n)...)
	}
	for _, n := range []int{0, -1, api.MaxBlocks + 1, math.MaxInt, math.MinInt} {
		if d, err := disk.New(n); d != nil || err != api.ErrBound {
			t.Errorf("New(%d): %v, %v", n, d, err)
		}
	}
}

func TestReadIsWhatWasWrittenLast(t *testing.T) {
	d := newDisk(t, 3)
	write(t, d, 1, "a")
	holds(t, d, 1, "", "a", "")
	write(t, d, 0, "b")
	write(t, d, 1, "c")
	holds(t, d, 3, "b", "c", "")
	d.Barrier()
	holds(t, d, 0, "b", "c", "")
	write(t, d, 1, "d")
	write(t, d, 2, "e")
	holds(t, d, 2, "b", "d", "e")
	write(t, d, 1, "")
	holds(t, d, 3, "b", "", "e")
}

func TestWriteOfWhatIsThereWaitsToo(t *testing.T) {
	d := newDisk(t, 1)
	write(t, d, 0, "")
	write(t, d, 0, "")
	holds(t, d, 2, "")
}

func TestAllBytesAreKept(t *testing.T) {
	d := newDisk(t, 256/api.BlockSize)
	text := func(k int) string {
		var b []byte
		for i := range api.BlockSize {
			b = append(b, byte(api.BlockSize*k+i))
		}
		return string(b)
	}
	for k := range d.Len() {
		write(t, d, k, text(k))
	}
	for range 2 {
		for k, s := range all(t, d) {
			if s != text(k) {
				t.Errorf("block %d: %q", k, s)
			}
		}
		d.Barrier()
	}
}

func TestFirstAndLastBlock(t *testing.T) {
	d := newDisk(t, api.MaxBlocks)
	want := make([]string, api.MaxBlocks)
	want[0], want[api.MaxBlocks-1] = "first", "last"
	write(t, d, 0, "first")
	write(t, d, api.MaxBlocks-1, "last")
	holds(t, d, 2, want...)
	d.Barrier()
	holds(t, d, 0, want...)
}

func TestBarrierMakesInOrder(t *testing.T) {
	d := newDisk(t, 2)
	for _, s := range []string{"a", "b", "c"} {
		write(t, d, 0, s)
		write(t, d, 1, s+s)
	}
	d.Barrier()
	holds(t, d, 0, "c", "cc")
	d.Barrier()
	holds(t, d, 0, "c", "cc")
}

func TestReadRefuses(t *testing.T) {
	d := newDisk(t, 3)
	write(t, d, 2, "a")
	for _, k := range []int{-1, 3, 4, math.MaxInt, math.MinInt} {
		if s, err := d.Read(k); s != "" || err != api.ErrBound {
			t.Errorf("Read(%d): %q, %v", k, s, err)
		}
	}
}

func TestWriteRefusesAndChangesNothing(t *testing.T) {
	d := newDisk(t, 3)
	write(t, d, 0, "a")
	d.Barrier()
	write(t, d, 2, "b")
	for _, k := range []int{-1, 3, 4, math.MaxInt, math.MinInt} {
		if err := d.Write(k, block("x")); err != api.ErrBound {
			t.Errorf("Write(%d): %v", k, err)
		}
	}
	for _, n := range []int{0, 1, api.BlockSize - 1, api.BlockSize + 1, 2 * api.BlockSize, 5000} {
		if err := d.Write(0, strings.Repeat("x", n)); err != api.ErrBound {
			t.Errorf("Write of %d bytes: %v", n, err)
		}
		if err := d.Write(3, strings.Repeat("x", n)); err != api.ErrBound {
			t.Errorf("Write of %d bytes to no block: %v", n, err)
		}
	}
	// counted by bytes: so many runes are more of them
	if err := d.Write(0, strings.Repeat("é", api.BlockSize)); err != api.ErrBound {
		t.Errorf("Write of runes: %v", err)
	}
	holds(t, d, 1, "a", "", "b")
	d.Barrier()
	holds(t, d, 0, "a", "", "b")
}

func TestDisksAreApart(t *testing.T) {
	a, b := newDisk(t, 2), newDisk(t, 2)
	write(t, a, 0, "a")
	write(t, b, 1, "b")
	a.Barrier()
	rot(t, a, 1, 0)
	holds(t, a, 0, "a", "\x01")
	holds(t, b, 1, "", "b")
	b.Crash(nil)
	holds(t, b, 0, "", "")
}

// New answers a nil disk with an error: a call of it does not panic either.
func TestNoDisk(t *testing.T) {
	d, _ := disk.New(0)
	if d.Len() != 0 || d.Waits() != 0 {
		t.Errorf("%d blocks, %d writes", d.Len(), d.Waits())
	}
	if s, err := d.Read(0); s != "" || err != api.ErrBound {
		t.Errorf("Read: %q, %v", s, err)
	}
	if err := d.Write(0, block("")); err != api.ErrBound {
		t.Errorf("Write: %v", err)
	}
	if err := d.Rot(0, 0); err != api.ErrBound {
		t.Errorf("Rot: %v", err)
	}
	d.Barrier()
	d.Crash([]int{0})
}
