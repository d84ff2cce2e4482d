package dirs_test

import (
	"fmt"
	"testing"

	"stillroom/api"
	"stillroom/disk"
	"stillroom/inode"
	"stillroom/tree"
)

func TestPut(t *testing.T) {
	d := newDirs(t, 40)
	for k, n := range []api.Node{
		sample(), file("xy"), runs("xy"), file(""), link("q"), dir(), dir(kid("a", dir())), sample(),
		under(api.MaxDeep, file("deep")), dir(kid("a", link("/a")), kid("b", dir(kid("c", link(".."))))),
	} {
		put(t, d, k, n)
		gets(t, d, k, n)
	}
	gets(t, d, 0, sample())
	gets(t, d, 7, sample())
	holds(t, d, 40-2*sampleBlocks-3, 0, 1, 2, 3, 4, 5, 6, 7, 8, 9)
}

// Files have numbers in tree.Files' order, which is not that of their paths'
// bytes, and what they hold is the inode's.
func TestPutMakesFilesInOrder(t *testing.T) {
	d := newDirs(t, sampleBlocks)
	put(t, d, 0, sample())
	next := 0
	for i, want := range []struct {
		data string
		exec bool
	}{{"xy", false}, {"xy", true}, {"", false}, {long(49), false}, {"\x00\xff\n\x00", false}, {long(32), true}} {
		is(t, d, 0, places()[i], i)
		s, there := d.Table().Stat(i)
		if !there || s.Bytes != len(want.data) || s.Exec != want.exec || s.Links != 1 || s.Sum != disk.Sum(want.data) {
			t.Errorf("%d: %v, %v", i, s, there)
		}
		for _, k := range s.Blocks {
			if k != next {
				t.Errorf("%d: blocks %v, want them from %d on", i, s.Blocks, next)
			}
			next++
		}
		if data, err := d.Table().Read(i); data != want.data || err != nil {
			t.Errorf("Read(%d): %q, %v", i, data, err)
		}
	}
	if fmt.Sprint(tree.Files(sample())) != fmt.Sprint(places()) {
		t.Error("the places are not those of tree.Files")
	}
}

// Numbers of inodes that are free again are filled up, file by file.
func TestPutFillsUpNumbers(t *testing.T) {
	d := newDirs(t, 8)
	for k := range 5 {
		put(t, d, k, file(fmt.Sprint(k)))
	}
	drop(t, d, 3)
	drop(t, d, 1)
	put(t, d, 5, dir(kid("a", file("a")), kid("b", file("b")), kid("c", file("c"))))
	is(t, d, 5, "/a", 1)
	is(t, d, 5, "/b", 3)
	is(t, d, 5, "/c", 5)
}

// What is alike is not sought here: each file is an inode of its own.
func TestPutOfWhatIsAlike(t *testing.T) {
	d := newDirs(t, 4)
	put(t, d, 0, dir(kid("a", file("x")), kid("b", file("x"))))
	put(t, d, 1, dir(kid("a", file("x")), kid("b", file("x"))))
	links(t, d, map[int]int{0: 1, 1: 1, 2: 1, 3: 1})
	holds(t, d, 0, 0, 1)
}

func TestPutWithJustRoomEnough(t *testing.T) {
	d := newDirs(t, sampleBlocks)
	put(t, d, 0, sample())
	holds(t, d, 0, 0)
	gets(t, d, 0, sample())
	putFails(t, d, file("a"), api.ErrFull)
	put(t, d, 1, dir(kid("a", file("")), kid("b", runs("")), kid("c", link("c"))))
	put(t, d, 2, file(""))
	is(t, d, 2, "/", 8)
	drop(t, d, 0)
	put(t, d, 3, sample())
	holds(t, d, 0, 1, 2, 3)
	gets(t, d, 3, sample())
}

// Also the disk is as it was: nothing is written to it, and what waits there
// still does.
func TestPutOfWhatIsTooLarge(t *testing.T) {
	for blocks := 1; blocks < sampleBlocks; blocks++ {
		d := newDirs(t, blocks)
		d.Table().Disk().Write(blocks-1, block("waits"))
		was := all(d)
		putFails(t, d, sample(), api.ErrFull)
		putFails(t, d, file(long(blocks*api.BlockSize+1)), api.ErrFull)
		if now := all(d); now != was {
			t.Errorf("%d blocks: %s, was %s", blocks, now, was)
		}
		put(t, d, 0, file(long(blocks*api.BlockSize)))
		is(t, d, 0, "/", 0)
	}
}

func TestPutOfWhatIsTooLargeBesideOthers(t *testing.T) {
	d := newDirs(t, 6)
	put(t, d, 0, dir(kid("a", file("a")), kid("b", file("b")), kid("c", file("c"))))
	put(t, d, 1, file("d"))
	drop(t, d, 0)
	put(t, d, 2, runs("e"))
	share(t, d, 1, "/", 3)
	was := all(d)
	putFails(t, d, dir(kid("a", file("1")), kid("b", file("")), kid("c", file("2")), kid("d", file("3")), kid("e", file(long(17)))), api.ErrFull)
	putFails(t, d, dir(kid("a", file(long(api.MaxData))), kid("b", file("1"))), api.ErrFull)
	if now := all(d); now != was {
		t.Errorf("%s, was %s", now, was)
	}
	put(t, d, 3, dir(kid("a", file("1")), kid("b", file("")), kid("c", file(long(33)))))
	for i, s := range []string{"/a", "/b", "/c"} {
		is(t, d, 3, s, []int{1, 2, 4}[i])
	}
	holds(t, d, 0, 1, 2, 3)
}

func TestPutOfTheMost(t *testing.T) {
	d := newDirs(t, api.MaxBlocks)
	n := dir(files(api.MaxNodes - 1)...)
	put(t, d, 0, n)
	gets(t, d, 0, n)
	m := dir(kid("a", file(long(api.MaxData))), kid("b", file(long(api.MaxData))))
	put(t, d, 1, m)
	gets(t, d, 1, m)
	putFails(t, d, m, api.ErrFull)
	holds(t, d, api.MaxBlocks-(api.MaxNodes-1)-2*api.MaxData/api.BlockSize, 0, 1)
}

func TestPutOfWhatIsNotWell(t *testing.T) {
	d := newDirs(t, 4)
	put(t, d, 0, file("a"))
	d.Table().Disk().Write(3, block("waits"))
	was := all(d)
	for _, c := range unwells() {
		if k, err := d.Put(c.n); k != 0 || err != c.want {
			t.Errorf("%s: %d, %v, want %v", c.about, k, err, c.want)
		}
	}
	if now := all(d); now != was {
		t.Errorf("%s, was %s", now, was)
	}
	put(t, d, 1, dir())
}

// What is put is there to stay.
func TestPutEndsWithABarrier(t *testing.T) {
	d := newDirs(t, sampleBlocks)
	put(t, d, 0, sample())
	if w := d.Table().Disk().Waits(); w != 0 {
		t.Errorf("%d writes wait", w)
	}
	d.Table().Disk().Crash(nil)
	gets(t, d, 0, sample())
}

// P4: a later change of what was handed over does not show, nor is it changed.
func TestPutKeepsNothingOfWhatIsHandedOver(t *testing.T) {
	d := newDirs(t, sampleBlocks)
	n := sample()
	put(t, d, 0, n)
	if !tree.Same(n, sample()) {
		t.Error("what was handed over has changed")
	}
	spoil(n)
	gets(t, d, 0, sample())
	is(t, d, 0, "/b/d", 3)
}

// What lies behind a list's length is neither read nor written.
func TestPutBehindTheLength(t *testing.T) {
	d := newDirs(t, 2)
	kids := []api.Kid{kid("a", file("a")), kid("a", file("b"))}
	put(t, d, 0, dir(kids[:1]...))
	gets(t, d, 0, dir(kid("a", file("a"))))
	if !tree.Same(dir(kids...), dir(kid("a", file("a")), kid("a", file("b")))) {
		t.Error("what lies behind has changed")
	}
	links(t, d, map[int]int{0: 1})
}

// One list at two places is two dirs.
func TestPutOfAListThatIsThereTwice(t *testing.T) {
	d := newDirs(t, 2)
	kids := []api.Kid{kid("a", file("x"))}
	put(t, d, 0, dir(kid("a", dir(kids...)), kid("b", dir(kids...))))
	is(t, d, 0, "/a/a", 0)
	is(t, d, 0, "/b/a", 1)
	n, _ := d.Get(0)
	n.Kids[0].Node.Kids[0].Node.Data = "y"
	if n.Kids[1].Node.Kids[0].Node.Data != "x" {
		t.Error("two lists of one answer share memory")
	}
}

func TestPutOverADiskThatRotted(t *testing.T) {
	d := newDirs(t, 1)
	for bit := range 8 * api.BlockSize {
		rot(t, d, 0, bit)
	}
	put(t, d, 0, file("a"))
	gets(t, d, 0, file("a"))
	if s, _ := d.Table().Stat(0); fmt.Sprint(s) != fmt.Sprint(inode.Stat{Bytes: 1, Links: 1, Blocks: []int{0}, Sum: disk.Sum("a")}) {
		t.Errorf("%v", s)
	}
}
