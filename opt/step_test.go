package opt_test

import (
	"testing"

	"stillroom/api"
	"stillroom/dirs"
	"stillroom/inode"
	"stillroom/opt"
)

func TestStepWithinOneTree(t *testing.T) {
	r := newRoom(t, 5, dir(kid("a", file("xy")), kid("b", file("z")), kid("c", dir(kid("a", file("xy")))), kid("d", file("z"))))
	r.step(t, "0/a=0 0/b=1 0/c/a=0 0/d=3")
	r.step(t, "0/a=0 0/b=1 0/c/a=0 0/d=1")
	r.none(t)
}

func TestStepOfTwoTrees(t *testing.T) {
	r := newRoom(t, 9, file(long(20)), dir(kid("a", file("a")), kid("b", file(long(20)))), file("a"))
	r.step(t, "0/=0 1/a=1 1/b=0 2/=3")
	r.step(t, "0/=0 1/a=1 1/b=0 2/=1")
	r.none(t)
}

// tree.Files' order is not that of the paths' bytes: /b.c would stand ahead of
// /b/a, and /b-/a ahead of both.
func TestStepTakesTheFirstFile(t *testing.T) {
	r := newRoom(t, 5, dir(kid("a", file("x")), kid("b", dir(kid("a", file("x")))), kid("b-", dir(kid("a", file("x")))), kid("b.c", file("x"))))
	r.step(t, "0/a=0 0/b/a=0 0/b-/a=2 0/b.c=3")
	r.step(t, "0/a=0 0/b/a=0 0/b-/a=0 0/b.c=3")
	r.step(t, "0/a=0 0/b/a=0 0/b-/a=0 0/b.c=0")
	r.none(t)
}

// The first file is sought by trees, not by inodes: that of tree 1 has the
// greatest number.
func TestStepGoesTreeByTree(t *testing.T) {
	r := newRoom(t, 9, dir(kid("a", file("1")), kid("b", file("2")), kid("c", file("3"))), file("x"))
	r.drop(t, 0)
	r.put(t, dir(kid("a", file("x")), kid("b", file("y"))))
	r.put(t, dir(kid("a", file("x")), kid("b", file("y"))))
	r.are(t, "1/=3 2/a=0 2/b=1 3/a=2 3/b=4")
	r.step(t, "1/=0 2/a=0 2/b=1 3/a=2 3/b=4")
	r.step(t, "1/=0 2/a=0 2/b=1 3/a=0 3/b=4")
	r.step(t, "1/=0 2/a=0 2/b=1 3/a=0 3/b=1")
	r.none(t)
}

// In order of their numbers trees 9 and 10 do not stand as texts would.
func TestStepGoesByNumbersOfTrees(t *testing.T) {
	r := newRoom(t, 20, file("x"))
	for range 8 {
		r.put(t, dir())
	}
	r.put(t, file("x"))
	r.put(t, file("x"))
	for k := 1; k < 9; k++ {
		r.drop(t, k)
	}
	r.step(t, "0/=0 9/=0 10/=2")
	r.step(t, "0/=0 9/=0 10/=0")
	r.none(t)
}

// Of several inodes that are alike it is the one with the least number: neither
// the nearest one, nor the one with the most links, nor that of the first tree.
func TestStepTakesTheLeastInode(t *testing.T) {
	r := newRoom(t, 9, file("q"), file("x"), file("y"), file("x"), file("x"), file("x"))
	r.share(t, 1, "/", 3)
	r.are(t, "0/=0 1/=3 2/=2 3/=3 4/=4 5/=5")
	r.put(t, file("x"))
	r.are(t, "0/=0 1/=3 2/=2 3/=3 4/=4 5/=5 6/=1")
	r.step(t, "0/=0 1/=1 2/=2 3/=3 4/=4 5/=5 6/=1")
	r.step(t, "0/=0 1/=1 2/=2 3/=1 4/=4 5/=5 6/=1")
	r.step(t, "0/=0 1/=1 2/=2 3/=1 4/=1 5/=5 6/=1")
	r.step(t, "0/=0 1/=1 2/=2 3/=1 4/=1 5/=1 6/=1")
	r.none(t)
}

func TestStepOfFilesWithoutBytes(t *testing.T) {
	r := newRoom(t, 1, dir(kid("a", file("")), kid("b", runs("")), kid("c", file(""))), runs(""))
	r.step(t, "0/a=0 0/b=1 0/c=0 1/=3")
	r.step(t, "0/a=0 0/b=1 0/c=0 1/=1")
	r.none(t)
	r.saves(t, 0, 1)
}

func TestStepOfWhatIsNotAlike(t *testing.T) {
	r := newRoom(t, 20, file("abc"), runs("abc"), file("abd"), file("ab"), file("abc\x00"), file("\x00abc"), file(""), file("ABC"),
		file(long(32)), file(long(33)), file(long(31)), file(long(16)), dir(kid("a", link("abc")), kid("abc", dir())), link("abc"))
	r.none(t)
	r.saves(t, 0, 5)
}

// Bytes that are alike, but not Exec: each has first ones of its own.
func TestStepHoldsExecApart(t *testing.T) {
	r := newRoom(t, 6, dir(kid("a", file("x")), kid("b", runs("x"))), dir(kid("a", runs("x")), kid("b", file("x"))))
	r.step(t, "0/a=0 0/b=1 1/a=1 1/b=3")
	r.step(t, "0/a=0 0/b=1 1/a=1 1/b=0")
	r.none(t)
}

// Two texts whose sums are alike are not alike.
func TestStepOfSumsThatAreAlike(t *testing.T) {
	r := newRoom(t, 4, file("plumless"), file("buckeroo"))
	a, _ := r.Table().Stat(0)
	b, _ := r.Table().Stat(1)
	if a.Sum != b.Sum {
		t.Fatalf("the sums are %x and %x", a.Sum, b.Sum)
	}
	r.none(t)
	r.put(t, file("buckeroo"))
	r.step(t, "0/=0 1/=1 2/=1")
	r.none(t)
}

// Files that are the least inode already have no step; of those that are
// another one together each has its own.
func TestStepOfFilesThatShareAlready(t *testing.T) {
	r := newRoom(t, 9, file("x"), file("x"), file("x"), file("x"))
	r.share(t, 1, "/", 0)
	r.share(t, 3, "/", 2)
	r.saves(t, 2, 7)
	r.step(t, "0/=0 1/=0 2/=0 3/=2")
	r.saves(t, 2, 7)
	r.step(t, "0/=0 1/=0 2/=0 3/=0")
	r.saves(t, 3, 8)
	r.none(t)
}

func TestStepOfOneInode(t *testing.T) {
	r := newRoom(t, 2, file("x"), file("x"))
	r.share(t, 0, "/", 1)
	r.are(t, "0/=1 1/=1")
	r.none(t)
}

func TestStepOfNoTree(t *testing.T) {
	r := newRoom(t, 1)
	r.none(t)
	r.saves(t, 0, 1)
	r.put(t, file("x"))
	r.drop(t, 0)
	r.none(t)
	r.saves(t, 0, 1)
}

func TestStepOfTreesWithoutFiles(t *testing.T) {
	r := newRoom(t, 1, dir(), dir(), link("a"), link("a"), dir(kid("a", dir()), kid("b", link("a"))))
	r.none(t)
	r.saves(t, 0, 1)
}

// A file that comes behind a step is found by the next one, and what goes is
// not sought any more.
func TestStepBehindPutsAndDrops(t *testing.T) {
	r := newRoom(t, 6, file("x"), file("x"))
	r.step(t, "0/=0 1/=0")
	r.put(t, file("x"))
	r.step(t, "0/=0 1/=0 2/=0")
	r.drop(t, 0)
	r.none(t)
	r.put(t, file("y"))
	r.drop(t, 1)
	r.drop(t, 2)
	r.put(t, file("x"))
	r.are(t, "3/=1 4/=0")
	r.none(t)
}

// An inode that no tree has is one too.
func TestStepToAnInodeWithoutAFile(t *testing.T) {
	r := newRoom(t, 4)
	if n, err := r.Table().Make("x", false); n != 0 || err != nil {
		t.Fatal(n, err)
	}
	r.put(t, file("x"))
	if is, err := opt.Step(r.Dirs); !is || err != nil {
		t.Errorf("Step: %v, %v", is, err)
	}
	if got := told(r.files()); got != "0/=0" {
		t.Errorf("files %s", got)
	}
	r.saves(t, 0, 3)
}

// Blocks are not written, nor is there a barrier behind what waits.
func TestStepLeavesTheDisk(t *testing.T) {
	for _, call := range []func(d *dirs.Dirs) error{
		func(d *dirs.Dirs) error { _, err := opt.Step(d); return err },
		func(d *dirs.Dirs) error { _, err := opt.All(d); return err },
		func(d *dirs.Dirs) error { opt.Saved(d); return nil },
	} {
		r := newRoom(t, 3, file("x"), file("x"))
		r.Table().Disk().Write(2, block("waits"))
		if err := call(r.Dirs); err != nil {
			t.Error(err)
		}
		if w := r.Table().Disk().Waits(); w != 1 {
			t.Errorf("%d writes wait", w)
		}
		for k, want := range []string{block("x"), block("x"), block("waits")} {
			if s, _ := r.Table().Disk().Read(k); s != want {
				t.Errorf("block %d: %q", k, s)
			}
		}
	}
}

func TestStepOfNil(t *testing.T) {
	if is, err := opt.Step(nil); is || err != api.ErrShape {
		t.Errorf("Step: %v, %v", is, err)
	}
	if n, err := opt.All(nil); n != 0 || err != api.ErrShape {
		t.Errorf("All: %d, %v", n, err)
	}
	if n := opt.Saved(nil); n != 0 {
		t.Errorf("Saved: %d", n)
	}
	none, _ := dirs.New(nil)
	if is, err := opt.Step(none); is || err != api.ErrShape {
		t.Errorf("Step of what New answers with an error: %v, %v", is, err)
	}
}

// P1: dirs that New did not make, and such over a table that inode.New did not.
func TestStepOfEmptyDirs(t *testing.T) {
	bare, _ := dirs.New(&inode.Table{})
	for _, d := range []*dirs.Dirs{{}, bare} {
		if is, err := opt.Step(d); is || err != nil {
			t.Errorf("Step: %v, %v", is, err)
		}
		if n, err := opt.All(d); n != 0 || err != nil {
			t.Errorf("All: %d, %v", n, err)
		}
		if n := opt.Saved(d); n != 0 {
			t.Errorf("Saved: %d", n)
		}
	}
}
