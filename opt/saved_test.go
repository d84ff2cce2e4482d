package opt_test

import (
	"testing"

	"stillroom/api"
	"stillroom/opt"
)

// What is saved more is free more.
func TestSaved(t *testing.T) {
	r := newRoom(t, 20,
		dir(kid("a", file(long(49))), kid("b", file("x")), kid("c", runs("x")), kid("d", file(""))),
		file(long(49)),
		dir(kid("a", file("x")), kid("b", file("x")), kid("c", file("")), kid("d", link("x"))))
	r.saves(t, 0, 8)
	r.share(t, 0, "/d", 7) // inode 3 goes, and had no blocks
	r.saves(t, 0, 8)
	r.share(t, 1, "/", 0)
	r.saves(t, 4, 12)
	r.steps(t, 2, "0/a=0 0/b=1 0/c=2 0/d=7 1/=0 2/a=1 2/b=1 2/c=7")
	r.saves(t, 6, 14)
}

func TestSavedAheadOfAllAndBehindIt(t *testing.T) {
	for _, bytes := range []int{0, 1, api.BlockSize - 1, api.BlockSize, api.BlockSize + 1, 10 * api.BlockSize} {
		fills := (bytes + api.BlockSize - 1) / api.BlockSize
		r := newRoom(t, 50, file(long(bytes)), file(long(bytes)), file(long(bytes)))
		r.saves(t, 0, 50-3*fills)
		r.steps(t, 2, "0/=0 1/=0 2/=0")
		r.saves(t, 2*fills, 50-fills)
	}
}

func TestSavedOfWhatGoes(t *testing.T) {
	r := newRoom(t, 9, file(long(20)), file(long(20)), dir(kid("a", file(long(20)))))
	r.steps(t, 2, "0/=0 1/=0 2/a=0")
	r.saves(t, 4, 7)
	r.drop(t, 0)
	r.saves(t, 2, 7)
	r.drop(t, 2)
	r.saves(t, 0, 7)
	r.drop(t, 1)
	r.saves(t, 0, 9)
}

// Bytes that rotted have as many blocks.
func TestSavedOfBytesThatRotted(t *testing.T) {
	r := newRoom(t, 9, file(long(20)), file(long(20)))
	r.steps(t, 1, "0/=0 1/=0")
	r.rot(t, 1, 0)
	r.saves(t, 2, 7)
}

// Files are asked for: neither a link by another hand nor an inode that no file
// is saves anything.
func TestSavedCountsFiles(t *testing.T) {
	r := newRoom(t, 9, file("x"), file("y"))
	n, err := r.Table().Make(long(20), false)
	if err != nil {
		t.Fatal(err)
	}
	for _, k := range []int{0, n, n} {
		if err := r.Table().Link(k); err != nil {
			t.Fatal(err)
		}
	}
	r.saves(t, 0, 5)
}

// A file whose inode another hand took away has no blocks to save.
func TestSavedWithoutAnInode(t *testing.T) {
	r := newRoom(t, 9, file("x"), file("x"))
	r.share(t, 1, "/", 0)
	r.Table().Unlink(0)
	r.Table().Unlink(0)
	r.saves(t, 0, 9)
}

func TestSavedChangesNothing(t *testing.T) {
	r := newRoom(t, 9, file("x"), file("x"), file("y"))
	r.share(t, 1, "/", 0)
	was := r.all()
	for range 3 {
		if n := opt.Saved(r.Dirs); n != 1 {
			t.Errorf("Saved: %d", n)
		}
	}
	if now := r.all(); now != was {
		t.Errorf("%s, was %s", now, was)
	}
}
