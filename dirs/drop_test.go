package dirs_test

import (
	"testing"

	"stillroom/api"
)

func TestDrop(t *testing.T) {
	d := newDirs(t, sampleBlocks+3)
	put(t, d, 0, file("a"))
	put(t, d, 1, sample())
	put(t, d, 2, dir(kid("a", link("a"))))
	put(t, d, 3, dir(kid("a", file("b")), kid("b", runs("c"))))
	drop(t, d, 1)
	holds(t, d, sampleBlocks, 0, 2, 3)
	links(t, d, map[int]int{0: 1, 7: 1, 8: 1})
	noSuch(t, d, 1)
	gets(t, d, 0, file("a"))
	gets(t, d, 3, dir(kid("a", file("b")), kid("b", runs("c"))))
	drop(t, d, 2)
	drop(t, d, 0)
	drop(t, d, 3)
	holds(t, d, sampleBlocks+3)
	links(t, d, nil)
}

func TestNumbersAreNotGivenAgain(t *testing.T) {
	d := newDirs(t, 2)
	for k := range 20 {
		put(t, d, k, file("a"))
		is(t, d, k, "/", 0)
		drop(t, d, k)
		holds(t, d, 2)
		dropFails(t, d, k, api.ErrNone)
	}
	put(t, d, 20, dir())
	put(t, d, 21, link("a"))
	drop(t, d, 20)
	put(t, d, 22, dir())
	holds(t, d, 2, 21, 22)
}

// What is shared goes with the last tree whose file it is.
func TestDropOfWhatIsShared(t *testing.T) {
	d := newDirs(t, 4)
	for k := range 4 {
		put(t, d, k, file("a"))
	}
	for k := range 3 {
		share(t, d, k, "/", 3)
	}
	for k, left := range []int{3, 2, 1} {
		drop(t, d, 3-k)
		links(t, d, map[int]int{3: left})
		gets(t, d, 0, file("a"))
	}
	holds(t, d, 3, 0)
	drop(t, d, 0)
	links(t, d, nil)
	holds(t, d, 4)
}

// A tree whose files are one inode has as many links of it.
func TestDropOfFilesThatAreOne(t *testing.T) {
	d := newDirs(t, 4)
	put(t, d, 0, dir(kid("a", file("x")), kid("b", dir(kid("a", file("x")))), kid("c", file("x"))))
	put(t, d, 1, file("x"))
	share(t, d, 0, "/b/a", 0)
	share(t, d, 0, "/c", 0)
	share(t, d, 1, "/", 0)
	links(t, d, map[int]int{0: 4})
	drop(t, d, 0)
	links(t, d, map[int]int{0: 1})
	gets(t, d, 1, file("x"))
}

func TestDropLeavesTheDisk(t *testing.T) {
	d := newDirs(t, 3)
	put(t, d, 0, file(long(20)))
	d.Table().Disk().Write(2, block("waits"))
	drop(t, d, 0)
	if w := d.Table().Disk().Waits(); w != 1 {
		t.Errorf("%d writes wait", w)
	}
	if s, _ := d.Table().Disk().Read(0); s != long(20)[:16] {
		t.Errorf("%q", s)
	}
}
