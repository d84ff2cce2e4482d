package dirs_test

import (
	"testing"

	"stillroom/api"
	"stillroom/tree"
)

func TestGetOfBytesThatRotted(t *testing.T) {
	d := newDirs(t, sampleBlocks+2)
	put(t, d, 0, sample())
	put(t, d, 1, file("whole"))
	put(t, d, 2, dir(kid("a", link("a"))))
	put(t, d, 3, file("whole"))
	for k := range sampleBlocks {
		rot(t, d, k, 0)
		getFails(t, d, 0, api.ErrSum)
		gets(t, d, 1, file("whole"))
		gets(t, d, 2, dir(kid("a", link("a"))))
		rot(t, d, k, 0)
		gets(t, d, 0, sample())
	}
	rot(t, d, sampleBlocks, 7)
	getFails(t, d, 1, api.ErrSum)
	gets(t, d, 0, sample())
	gets(t, d, 3, file("whole"))
}

// A tree whose bytes rotted is still there, with its inodes.
func TestRotChangesNoNumber(t *testing.T) {
	d := newDirs(t, sampleBlocks+1)
	put(t, d, 0, sample())
	rot(t, d, 0, 0)
	rot(t, d, 3, 5)
	holds(t, d, 1, 0)
	for n, s := range places() {
		is(t, d, 0, s, n)
	}
	inodeFails(t, d, 0, "/b", api.ErrNone)
	put(t, d, 1, file("a"))
	is(t, d, 1, "/", len(places()))
	drop(t, d, 0)
	holds(t, d, sampleBlocks, 1)
}

// What one file's rot does, all see that are its inode.
func TestRotOfWhatIsShared(t *testing.T) {
	d := newDirs(t, 3)
	for k := range 3 {
		put(t, d, k, file("a"))
	}
	share(t, d, 1, "/", 0)
	rot(t, d, 0, 0)
	getFails(t, d, 0, api.ErrSum)
	getFails(t, d, 1, api.ErrSum)
	gets(t, d, 2, file("a"))
}

func TestGetIsNewMemory(t *testing.T) {
	d := newDirs(t, sampleBlocks)
	put(t, d, 0, sample())
	n, _ := d.Get(0)
	spoil(n)
	m, _ := d.Get(0)
	_ = append(m.Kids[:1], kid("spoilt", link("spoilt")))
	gets(t, d, 0, sample())
}

// A tree that was got is one of its own: it stays when that one goes.
func TestGetStaysBehindADrop(t *testing.T) {
	d := newDirs(t, sampleBlocks)
	put(t, d, 0, sample())
	n, _ := d.Get(0)
	drop(t, d, 0)
	put(t, d, 1, file(long(sampleBlocks*api.BlockSize)))
	if !tree.Same(n, sample()) {
		t.Error("what was got has changed")
	}
}
