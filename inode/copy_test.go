package inode_test

import (
	"fmt"
	"testing"

	"stillroom/api"
	"stillroom/disk"
	"stillroom/inode"
)

// told is all that calls tell of a table.
func told(t *testing.T, x *inode.Table) string {
	t.Helper()
	l := []any{x.Free(), blocks(t, x), x.Disk().Waits()}
	for _, n := range x.All() {
		s, _ := x.Stat(n)
		text, err := x.Read(n)
		l = append(l, n, s, text, err)
	}
	return fmt.Sprintf("%q", l)
}

// some is a table with a number and a block that are free between others.
func some(t *testing.T) *inode.Table {
	t.Helper()
	x := newTable(t, 9)
	put(t, x, 0, long(40))
	put(t, x, 1, "a")
	put(t, x, 2, "b")
	link(t, x, 2)
	unlink(t, x, 1)
	return x
}

func TestCopyIsAlike(t *testing.T) {
	x := some(t)
	c := x.Copy()
	if told(t, c) != told(t, x) {
		t.Errorf("%s, was %s", told(t, c), told(t, x))
	}
	put(t, c, 1, long(20))
	put(t, x, 1, long(20))
	if told(t, c) != told(t, x) {
		t.Errorf("%s, was %s", told(t, c), told(t, x))
	}
}

// Whatever is done to one of two leaves the other one as it was.
func TestCopyGoesOnByItself(t *testing.T) {
	for i, do := range []func(x *inode.Table){
		func(x *inode.Table) { put(t, x, 1, long(20)) },
		func(x *inode.Table) { link(t, x, 0) },
		func(x *inode.Table) { unlink(t, x, 0) },
		func(x *inode.Table) { unlink(t, x, 2) },
		func(x *inode.Table) { rot(t, x, 0, 3) },
		func(x *inode.Table) { inode.Lay(x.Disk(), []int{4}, "c") },
		func(x *inode.Table) { x.Disk().Write(4, block("c")) },
	} {
		x := some(t)
		c := x.Copy()
		was := told(t, x)
		do(c)
		if told(t, x) != was || told(t, c) == was {
			t.Errorf("%d: %s, was %s, the copy %s", i, told(t, x), was, told(t, c))
		}
		x = some(t)
		c = x.Copy()
		do(x)
		if told(t, c) != was || told(t, x) == was {
			t.Errorf("%d: the copy %s, was %s", i, told(t, c), was)
		}
	}
}

func TestCopyOfNoTable(t *testing.T) {
	none, _ := inode.New(nil)
	if c := none.Copy(); c != nil {
		t.Error(c)
	}
	c := (&inode.Table{}).Copy()
	makeFails(t, c, "", api.ErrFull)
	c = newTable(t, 3).Copy()
	put(t, c, 0, "a")
	holds(t, c, 2, 0)
	x, err := inode.New(&disk.Disk{})
	if err != nil {
		t.Fatal(err)
	}
	makeFails(t, x.Copy(), "a", api.ErrFull)
	put(t, x.Copy(), 0, "")
}
