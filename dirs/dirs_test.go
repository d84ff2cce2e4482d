package dirs_test

import (
	"math"
	"slices"
	"testing"

	"stillroom/api"
	"stillroom/dirs"
	"stillroom/disk"
	"stillroom/inode"
)

func TestNew(t *testing.T) {
	holds(t, newDirs(t, 5), 5)
	if d, err := dirs.New(nil); d != nil || err != api.ErrShape {
		t.Errorf("New(nil): %v, %v", d, err)
	}
}

// What a table holds ahead belongs to no tree, and stays.
func TestNewLeavesTheTable(t *testing.T) {
	b, _ := disk.New(4)
	x, _ := inode.New(b)
	x.Make("first", true)
	x.Make("second", false)
	x.Unlink(0)
	b.Write(3, block("waits"))
	d, err := dirs.New(x)
	if err != nil {
		t.Fatal(err)
	}
	if d.Table() != x {
		t.Error("Table is another one")
	}
	holds(t, d, 3)
	links(t, d, map[int]int{1: 1})
	if b.Waits() != 1 {
		t.Errorf("%d writes wait", b.Waits())
	}
	put(t, d, 0, dir(kid("a", file("a")), kid("b", file("b"))))
	is(t, d, 0, "/a", 0)
	is(t, d, 0, "/b", 2)
	share(t, d, 0, "/a", 0)
	shareFails(t, d, 0, "/a", 1, api.ErrShape)
	drop(t, d, 0)
	links(t, d, map[int]int{1: 1})
}

func TestDirsAreApart(t *testing.T) {
	a, b := newDirs(t, 3), newDirs(t, 3)
	put(t, a, 0, file("a"))
	put(t, b, 0, link("b"))
	put(t, b, 1, file("b"))
	gets(t, a, 0, file("a"))
	getFails(t, a, 1, api.ErrNone)
	drop(t, b, 0)
	gets(t, a, 0, file("a"))
	holds(t, a, 2, 0)
	holds(t, b, 2, 1)
}

func TestTreesRise(t *testing.T) {
	d := newDirs(t, 1)
	var want []int
	for k := range 300 {
		put(t, d, k, dir())
	}
	for k := range 300 {
		if k%7 == 3 {
			drop(t, d, k)
		} else {
			want = append(want, k)
		}
	}
	holds(t, d, 1, want...)
}

func TestTreesIsNewMemory(t *testing.T) {
	d := newDirs(t, 1)
	for k := range 4 {
		put(t, d, k, dir())
	}
	l := d.Trees()
	l[0], l[3] = 9, 9
	_ = append(l[:1], 9)
	holds(t, d, 1, 0, 1, 2, 3)
}

// P1: numbers that are none, of dirs that have trees and of such that have not.
func TestNoSuchTree(t *testing.T) {
	some := newDirs(t, 8)
	for k := range 3 {
		put(t, some, k, file("a"))
	}
	drop(t, some, 1)
	for _, d := range []*dirs.Dirs{some, newDirs(t, 1)} {
		was := all(d)
		for _, k := range []int{-1, 1, 3, 4, math.MaxInt, math.MinInt} {
			noSuch(t, d, k)
		}
		if now := all(d); now != was {
			t.Errorf("%s, was %s", now, was)
		}
	}
}

// noSuch: that there is no tree is told ahead of what is wrong with a path, or
// with an inode.
func noSuch(t *testing.T, d *dirs.Dirs, k int) {
	t.Helper()
	getFails(t, d, k, api.ErrNone)
	dropFails(t, d, k, api.ErrNone)
	for _, s := range []string{"/", "/a", "", "a", "/A"} {
		inodeFails(t, d, k, s, api.ErrNone)
		for _, n := range []int{-1, 0, 9} {
			if err := d.Share(k, s, n); err != api.ErrNone {
				t.Errorf("Share(%d, %q, %d): %v", k, s, n, err)
			}
		}
	}
}

// New answers nil dirs with an error: a call of them does not panic either,
// nor one of dirs that New did not make.
func TestNoDirs(t *testing.T) {
	none, _ := dirs.New(nil)
	for _, d := range []*dirs.Dirs{none, {}} {
		for _, n := range []api.Node{dir(), link("a"), file(""), sample()} {
			putFails(t, d, n, api.ErrFull)
		}
		putFails(t, d, api.Node{}, api.ErrKind)
		for _, k := range []int{-1, 0, 1} {
			noSuch(t, d, k)
		}
		if l := d.Trees(); len(l) != 0 {
			t.Errorf("%v are there", l)
		}
		if d.Table() != nil {
			t.Error("there is a table")
		}
	}
}

// A table that inode.New did not make has no room for a file, not even for one
// without bytes.
func TestTableWithoutRoom(t *testing.T) {
	d, err := dirs.New(&inode.Table{})
	if err != nil || d == nil {
		t.Fatalf("New: %v, %v", d, err)
	}
	putFails(t, d, file(""), api.ErrFull)
	putFails(t, d, sample(), api.ErrFull)
	put(t, d, 0, dir(kid("a", link("b"))))
	putFails(t, d, dir(kid("a", file("")), kid("b", file("")), kid("c", link("c"))), api.ErrFull)
	put(t, d, 1, dir())
	gets(t, d, 0, dir(kid("a", link("b"))))
	drop(t, d, 0)
	holds(t, d, 0, 1)
}

// The table is laid open: also when inodes go by another hand, calls end well,
// and what is left is dropped.
func TestTableIsChangedByAnother(t *testing.T) {
	d := newDirs(t, 8)
	put(t, d, 0, dir(kid("a", file("a")), kid("b", file("b")), kid("c", file("b"))))
	if err := d.Table().Unlink(1); err != nil {
		t.Fatal(err)
	}
	getFails(t, d, 0, api.ErrNone)
	shareFails(t, d, 0, "/b", 1, api.ErrNone)
	shareFails(t, d, 0, "/b", 2, api.ErrNone)
	drop(t, d, 0)
	holds(t, d, 8)
	*d.Table() = inode.Table{}
	putFails(t, d, file("a"), api.ErrFull)
	put(t, d, 1, dir())
	if !slices.Equal(d.Trees(), []int{1}) {
		t.Errorf("%v are there", d.Trees())
	}
}
