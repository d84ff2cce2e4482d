package disk_test

import (
	"math"
	"slices"
	"testing"

	"stillroom/api"
)

func TestCrashKeepsByNumbers(t *testing.T) {
	for _, c := range []struct {
		about string
		keep  []int
		want  []string
	}{
		{"nil", nil, []string{"o", "p", ""}},
		{"none", []int{}, []string{"o", "p", ""}},
		{"the first of two of a block", []int{0}, []string{"a", "p", ""}},
		{"the second of two of a block", []int{2}, []string{"c", "p", ""}},
		{"both, the other way round", []int{2, 0}, []string{"c", "p", ""}},
		{"the second block alone", []int{1}, []string{"o", "b", ""}},
		{"the last one", []int{3}, []string{"o", "p", "d"}},
		{"the first and the last one", []int{3, 0}, []string{"a", "p", "d"}},
		{"all", []int{0, 1, 2, 3}, []string{"c", "b", "d"}},
		{"all, falling", []int{3, 2, 1, 0}, []string{"c", "b", "d"}},
		{"twice", []int{0, 0}, []string{"a", "p", ""}},
		{"twice, with another between", []int{0, 2, 0}, []string{"c", "p", ""}},
		{"numbers that are none", []int{-1, 4, 5, math.MaxInt, math.MinInt}, []string{"o", "p", ""}},
		{"none among others", []int{-1, 1, 99, 3, 4}, []string{"o", "b", "d"}},
	} {
		d := newDisk(t, 3)
		write(t, d, 0, "o")
		write(t, d, 1, "p")
		d.Barrier()
		write(t, d, 0, "a")
		write(t, d, 1, "b")
		write(t, d, 0, "c")
		write(t, d, 2, "d")
		d.Crash(c.keep)
		t.Log(c.about)
		holds(t, d, 0, c.want...)
		// what is left is there to stay
		d.Crash([]int{0, 1, 2, 3})
		holds(t, d, 0, c.want...)
		d.Barrier()
		holds(t, d, 0, c.want...)
	}
}

func TestNumbersBeginAgain(t *testing.T) {
	d := newDisk(t, 2)
	write(t, d, 0, "a")
	d.Crash(nil)
	write(t, d, 0, "b")
	write(t, d, 1, "c")
	d.Barrier()
	write(t, d, 1, "d")
	write(t, d, 0, "e")
	d.Crash([]int{0})
	holds(t, d, 0, "b", "d")
	write(t, d, 0, "f")
	d.Crash([]int{0})
	holds(t, d, 0, "f", "d")
}

// A write that is refused has no number.
func TestRefusedWriteIsNotCounted(t *testing.T) {
	d := newDisk(t, 2)
	d.Write(2, block("x"))
	d.Write(0, "x")
	write(t, d, 0, "a")
	d.Write(0, "x")
	write(t, d, 1, "b")
	d.Crash([]int{1})
	holds(t, d, 0, "", "b")
}

func TestCrashOnlyReadsTheList(t *testing.T) {
	keep := []int{7, 1, 1, -1, 0, 2}
	was := slices.Clone(keep)
	d := newDisk(t, 3)
	write(t, d, 0, "a")
	write(t, d, 1, "b")
	write(t, d, 2, "c")
	d.Crash(keep[:4]) // behind its length stand numbers that are not kept
	holds(t, d, 0, "", "b", "")
	if !slices.Equal(keep, was) {
		t.Errorf("%v, was %v", keep, was)
	}
}

func TestRotOfWhatIsThere(t *testing.T) {
	for bit := range 8 * api.BlockSize {
		d := newDisk(t, 3)
		write(t, d, 1, "0123456789abcdef")
		d.Barrier()
		rot(t, d, 1, bit)
		holds(t, d, 0, "", turned("0123456789abcdef", bit), "")
		rot(t, d, 1, bit)
		holds(t, d, 0, "", "0123456789abcdef", "")
	}
}

func TestFirstAndLastBit(t *testing.T) {
	d := newDisk(t, api.MaxBlocks)
	want := make([]string, api.MaxBlocks)
	rot(t, d, 0, 0)
	want[0] = "\x01"
	holds(t, d, 0, want...)
	rot(t, d, 0, 7)
	want[0] = "\x81"
	holds(t, d, 0, want...)
	rot(t, d, 0, 8)
	want[0] = "\x81\x01"
	holds(t, d, 0, want...)
	rot(t, d, api.MaxBlocks-1, 8*api.BlockSize-1)
	want[api.MaxBlocks-1] = "\x00\x00\x00\x00\x00\x00\x00\x00\x00\x00\x00\x00\x00\x00\x00\x80"
	holds(t, d, 0, want...)
}

// The bit turns in what is there to stay and in each write of the block that
// waits: whichever of them is left, it has turned; the other blocks have not.
func TestRotWhileWritesWait(t *testing.T) {
	for _, c := range []struct {
		keep []int
		want []string
	}{
		{nil, []string{"O", "p"}},
		{[]int{0}, []string{"A", "p"}},
		{[]int{1}, []string{"O", "b"}},
		{[]int{2}, []string{"C", "p"}},
		{[]int{0, 1, 2}, []string{"C", "b"}},
		{[]int{0, 1, 2, 3}, []string{"d", "b"}},
	} {
		d := newDisk(t, 2)
		write(t, d, 0, "o")
		write(t, d, 1, "p")
		d.Barrier()
		write(t, d, 0, "a")
		write(t, d, 1, "b")
		write(t, d, 0, "c")
		rot(t, d, 0, 5)
		holds(t, d, 3, "C", "b")
		write(t, d, 0, "d") // comes behind the rot: it is as it was written
		holds(t, d, 4, "d", "b")
		d.Crash(c.keep)
		holds(t, d, 0, c.want...)
	}
}

func TestRotThenBarrier(t *testing.T) {
	d := newDisk(t, 2)
	write(t, d, 1, "a")
	rot(t, d, 1, 5)
	d.Barrier()
	holds(t, d, 0, "", "A")
	d.Crash(nil)
	holds(t, d, 0, "", "A")
}

func TestRotRefusesAndChangesNothing(t *testing.T) {
	d := newDisk(t, 3)
	write(t, d, 0, "a")
	d.Barrier()
	write(t, d, 2, "b")
	for _, k := range []int{-1, 3, 4, math.MaxInt, math.MinInt} {
		for _, bit := range []int{0, 8*api.BlockSize - 1, -1} {
			if err := d.Rot(k, bit); err != api.ErrBound {
				t.Errorf("Rot(%d, %d): %v", k, bit, err)
			}
		}
	}
	for _, bit := range []int{-1, -8, 8 * api.BlockSize, math.MaxInt, math.MinInt} {
		for k := range d.Len() {
			if err := d.Rot(k, bit); err != api.ErrBound {
				t.Errorf("Rot(%d, %d): %v", k, bit, err)
			}
		}
	}
	holds(t, d, 1, "a", "", "b")
	d.Crash(nil)
	holds(t, d, 0, "a", "", "")
}
