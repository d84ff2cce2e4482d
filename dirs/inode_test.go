package dirs_test

import (
	"strings"
	"testing"

	"stillroom/api"
)

func TestInode(t *testing.T) {
	d := newDirs(t, 20)
	put(t, d, 0, file("top"))
	put(t, d, 1, sample())
	put(t, d, 2, under(api.MaxDeep, file("deep")))
	put(t, d, 3, runs(""))
	is(t, d, 0, "/", 0)
	for i, s := range places() {
		is(t, d, 1, s, 1+i)
	}
	is(t, d, 2, down(api.MaxDeep), 7)
	is(t, d, 3, "/", 8)
}

func TestInodeOfWhatIsNoFile(t *testing.T) {
	d := newDirs(t, sampleBlocks+1)
	put(t, d, 0, sample())
	put(t, d, 1, file("a"))
	put(t, d, 2, dir())
	put(t, d, 3, link("a"))
	for _, s := range []string{"/", "/b", "/b/b", "/b/c", "/-", "/b/b/b", "/-/a", "/q", "/b/q", "/a/a", "/b.c/a", "/b/d/a", "/c/b/long-name.1", down(api.MaxDeep)} {
		inodeFails(t, d, 0, s, api.ErrNone)
	}
	inodeFails(t, d, 1, "/a", api.ErrNone)
	for k := 2; k <= 3; k++ {
		for _, s := range []string{"/", "/a"} {
			inodeFails(t, d, k, s, api.ErrNone)
		}
	}
}

func TestInodeOfWhatIsNoPath(t *testing.T) {
	d := newDirs(t, sampleBlocks+1)
	put(t, d, 0, sample())
	put(t, d, 1, file("a"))
	for _, s := range noPaths() {
		for k := range 2 {
			inodeFails(t, d, k, s, api.ErrName)
			shareFails(t, d, k, s, 0, api.ErrName)
			shareFails(t, d, k, s, -1, api.ErrName)
		}
	}
	inodeFails(t, d, 0, strings.Repeat("/a", 3000), api.ErrName)
}
