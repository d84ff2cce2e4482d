package dirs_test

import (
	"math"
	"testing"

	"stillroom/api"
)

func TestShare(t *testing.T) {
	d := newDirs(t, 12)
	n := dir(kid("a", file(long(20))), kid("b", dir(kid("c", file(long(20))), kid("d", runs("r")))))
	put(t, d, 0, n)
	put(t, d, 1, file(long(20)))
	links(t, d, map[int]int{0: 1, 1: 1, 2: 1, 3: 1})
	share(t, d, 0, "/b/c", 0) // within one tree
	links(t, d, map[int]int{0: 2, 2: 1, 3: 1})
	holds(t, d, 7, 0, 1)
	share(t, d, 0, "/a", 3) // to another one's, with a greater number
	links(t, d, map[int]int{0: 1, 2: 1, 3: 2})
	holds(t, d, 7, 0, 1)
	share(t, d, 0, "/b/c", 3) // the last link goes
	links(t, d, map[int]int{2: 1, 3: 3})
	holds(t, d, 9, 0, 1)
	is(t, d, 0, "/a", 3)
	is(t, d, 0, "/b/c", 3)
	is(t, d, 0, "/b/d", 2)
	is(t, d, 1, "/", 3)
	gets(t, d, 0, n)
	gets(t, d, 1, file(long(20)))
	put(t, d, 2, file("new"))
	is(t, d, 2, "/", 0)
}

// An inode that goes with its last link leaves its number and its blocks.
func TestShareFreesWhatWasLast(t *testing.T) {
	d := newDirs(t, 4)
	put(t, d, 0, file(long(20)))
	put(t, d, 1, file(long(20)))
	putFails(t, d, file("a"), api.ErrFull)
	share(t, d, 0, "/", 1)
	shareFails(t, d, 1, "/", 0, api.ErrNone)
	holds(t, d, 2, 0, 1)
	put(t, d, 2, file(long(32)))
	is(t, d, 2, "/", 0)
	gets(t, d, 0, file(long(20)))
	gets(t, d, 2, file(long(32)))
}

func TestShareToWhatItIsAlready(t *testing.T) {
	d := newDirs(t, 4)
	put(t, d, 0, file("a"))
	put(t, d, 1, runs("a"))
	shareFails(t, d, 0, "/", 0, nil)
	shareFails(t, d, 1, "/", 1, nil)
	put(t, d, 2, file("a"))
	share(t, d, 2, "/", 0)
	shareFails(t, d, 2, "/", 0, nil)
	shareFails(t, d, 0, "/", 0, nil)
	links(t, d, map[int]int{0: 2, 1: 1})
	rot(t, d, 0, 0)
	shareFails(t, d, 0, "/", 0, nil) // nothing is read for it
}

func TestShareOfFilesWithoutBytes(t *testing.T) {
	d := newDirs(t, 1)
	put(t, d, 0, dir(kid("a", file("")), kid("b", file("")), kid("c", runs("")), kid("d", file("x"))))
	share(t, d, 0, "/b", 0)
	shareFails(t, d, 0, "/c", 0, api.ErrShape)
	shareFails(t, d, 0, "/d", 0, api.ErrShape)
	shareFails(t, d, 0, "/a", 3, api.ErrShape)
	links(t, d, map[int]int{0: 2, 2: 1, 3: 1})
}

func TestShareOfWhatIsNotAlike(t *testing.T) {
	d := newDirs(t, 20)
	put(t, d, 0, file("abc"))
	for k, n := range []api.Node{
		runs("abc"), file("abd"), file("ab"), file("abc\x00"), file("\x00abc"), file(""), file("ABC"), file(long(20)), runs("x"),
	} {
		put(t, d, k+1, n)
		shareFails(t, d, 0, "/", k+1, api.ErrShape)
		shareFails(t, d, k+1, "/", 0, api.ErrShape)
	}
}

// Two texts whose sums are alike are not alike: P81 asks for their bytes.
func TestShareOfSumsThatAreAlike(t *testing.T) {
	d := newDirs(t, 2)
	put(t, d, 0, file("plumless"))
	put(t, d, 1, file("buckeroo"))
	a, _ := d.Table().Stat(0)
	b, _ := d.Table().Stat(1)
	if a.Sum != b.Sum {
		t.Fatalf("the sums are %x and %x", a.Sum, b.Sum)
	}
	shareFails(t, d, 0, "/", 1, api.ErrShape)
}

func TestShareWithoutAnInode(t *testing.T) {
	d := newDirs(t, 4)
	for k := range 3 {
		put(t, d, k, file("a"))
	}
	drop(t, d, 1)
	for _, n := range []int{-1, 1, 3, math.MaxInt, math.MinInt} {
		shareFails(t, d, 0, "/", n, api.ErrNone)
	}
	rot(t, d, 0, 0)
	shareFails(t, d, 0, "/", 1, api.ErrNone) // ahead of what can't be read
}

func TestShareOfWhatIsNoFile(t *testing.T) {
	d := newDirs(t, sampleBlocks)
	put(t, d, 0, sample())
	put(t, d, 1, link("a"))
	for _, s := range []string{"/", "/b", "/-", "/q", "/a/a"} {
		for _, n := range []int{-1, 0, 99} {
			shareFails(t, d, 0, s, n, api.ErrNone)
		}
	}
	shareFails(t, d, 1, "/", 0, api.ErrNone)
}

func TestShareOfBytesThatRotted(t *testing.T) {
	d := newDirs(t, 6)
	put(t, d, 0, file(long(20)))
	put(t, d, 1, file(long(20)))
	put(t, d, 2, runs("r"))
	for k := range 2 { // a block of each
		rot(t, d, 2*k, 0)
		shareFails(t, d, 0, "/", 1, api.ErrSum)
		shareFails(t, d, 1, "/", 0, api.ErrSum)
		shareFails(t, d, k, "/", 2, api.ErrSum) // ahead of what is not alike
		shareFails(t, d, 2, "/", k, api.ErrSum)
		rot(t, d, 2*k, 0)
	}
	rot(t, d, 0, 0)
	rot(t, d, 2, 0) // rotten alike, and still not read
	shareFails(t, d, 0, "/", 1, api.ErrSum)
	rot(t, d, 0, 0)
	rot(t, d, 2, 0)
	for k := range 3 {
		is(t, d, k, "/", k)
	}
	share(t, d, 0, "/", 1)
	gets(t, d, 0, file(long(20)))
}

func TestShareLeavesTheDisk(t *testing.T) {
	d := newDirs(t, 3)
	put(t, d, 0, dir(kid("a", file("x")), kid("b", file("x"))))
	d.Table().Disk().Write(2, block("waits"))
	share(t, d, 0, "/b", 0)
	if w := d.Table().Disk().Waits(); w != 1 {
		t.Errorf("%d writes wait", w)
	}
	if s, _ := d.Table().Disk().Read(1); s != block("x") {
		t.Errorf("%q", s)
	}
}
