package dirs_test

import (
	"testing"

	"stillroom/api"
	"stillroom/dirs"
)

// some are dirs with numbers that are free, files that share, and one that rotted.
func some(t *testing.T) *dirs.Dirs {
	t.Helper()
	d := newDirs(t, 30)
	put(t, d, 0, file("gone"))
	put(t, d, 1, sample())
	put(t, d, 2, dir(kid("a", file("xy")), kid("b", file("xy")), kid("l", link("a"))))
	put(t, d, 3, file("rots"))
	drop(t, d, 0)
	share(t, d, 2, "/a", 1)
	n, _ := d.Inode(3, "/")
	s, _ := d.Table().Stat(n)
	rot(t, d, s.Blocks[0], 1)
	return d
}

func TestCopyIsAlike(t *testing.T) {
	d := some(t)
	c := d.Copy()
	if all(c) != all(d) {
		t.Errorf("%s, was %s", all(c), all(d))
	}
	put(t, c, 4, sample())
	put(t, d, 4, sample())
	if all(c) != all(d) {
		t.Errorf("%s, was %s", all(c), all(d))
	}
	if c.Table() == d.Table() || c.Table().Disk() == d.Table().Disk() {
		t.Error("the table, or its disk, is both's")
	}
}

// Whatever is done to one of two leaves the other one as it was.
func TestCopyGoesOnByItself(t *testing.T) {
	for i, do := range []func(d *dirs.Dirs){
		func(d *dirs.Dirs) { put(t, d, 4, sample()) },
		func(d *dirs.Dirs) { drop(t, d, 1) },
		func(d *dirs.Dirs) { drop(t, d, 3) },
		func(d *dirs.Dirs) { share(t, d, 2, "/b", 1) },
		func(d *dirs.Dirs) { rot(t, d, 1, 1) },
		func(d *dirs.Dirs) { d.Table().Link(1) },
	} {
		d := some(t)
		c := d.Copy()
		was := all(d)
		do(c)
		if all(d) != was || all(c) == was {
			t.Errorf("%d: %s, was %s, the copy %s", i, all(d), was, all(c))
		}
		d = some(t)
		c = d.Copy()
		do(d)
		if all(c) != was || all(d) == was {
			t.Errorf("%d: the copy %s, was %s", i, all(c), was)
		}
	}
}

func TestCopyGivesNewMemory(t *testing.T) {
	d := newDirs(t, 30)
	put(t, d, 0, sample())
	c := d.Copy()
	n, _ := c.Get(0)
	spoil(n)
	gets(t, c, 0, sample())
	gets(t, d, 0, sample())
}

func TestCopyOfNoDirs(t *testing.T) {
	none, _ := dirs.New(nil)
	if c := none.Copy(); c != nil {
		t.Error(c)
	}
	putFails(t, (&dirs.Dirs{}).Copy(), file(""), api.ErrFull)
	c := newDirs(t, 3).Copy()
	put(t, c, 0, file("x"))
	holds(t, c, 2, 0)
}
