package disk_test

import (
	"testing"

	"stillroom/disk"
)

func TestCopyHasBlocksAndWrites(t *testing.T) {
	d := newDisk(t, 3)
	write(t, d, 0, "a")
	d.Barrier()
	write(t, d, 0, "b")
	write(t, d, 1, "c")
	c := d.Copy()
	holds(t, c, 2, "b", "c", "")
	c.Crash([]int{1})
	holds(t, c, 0, "a", "c", "")
	holds(t, d, 2, "b", "c", "")
	d.Barrier()
	holds(t, d, 0, "b", "c", "")
	holds(t, c, 0, "a", "c", "")
}

func TestCopyGoesOnByItself(t *testing.T) {
	d := newDisk(t, 2)
	write(t, d, 0, "a")
	d.Barrier()
	write(t, d, 1, "b")
	c := d.Copy()
	rot(t, c, 0, 0)
	rot(t, c, 1, 0)
	holds(t, c, 1, turned("a", 0), turned("b", 0))
	holds(t, d, 1, "a", "b")
	rot(t, d, 1, 1)
	write(t, d, 0, "d")
	holds(t, d, 2, "d", turned("b", 1))
	holds(t, c, 1, turned("a", 0), turned("b", 0))
	write(t, c, 0, "c")
	holds(t, d, 2, "d", turned("b", 1))
	holds(t, c, 2, "c", turned("b", 0))
	c.Barrier()
	d.Crash(nil)
	holds(t, d, 0, "a", turned("\x00", 1))
	holds(t, c, 0, "c", turned("b", 0))
}

func TestCopyOfNoDisk(t *testing.T) {
	none, _ := disk.New(0)
	if c := none.Copy(); c != nil {
		t.Error(c)
	}
}
