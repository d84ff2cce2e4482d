package dirs_test

import (
	"slices"
	"testing"

	"stillroom/dirs"
)

func filesAre(t *testing.T, d *dirs.Dirs, want ...dirs.File) {
	t.Helper()
	if got := d.Files(); !slices.Equal(got, want) {
		t.Errorf("files %v, want %v", got, want)
	}
}

func TestFiles(t *testing.T) {
	d := newDirs(t, sampleBlocks+3)
	filesAre(t, d)
	put(t, d, 0, file("x"))
	put(t, d, 1, file("x"))
	put(t, d, 2, dir(kid("a", link("a")), kid("b", dir())))
	drop(t, d, 0)
	put(t, d, 3, sample()) // its first file is inode 0
	want := []dirs.File{{Tree: 1, Path: "/", Inode: 1}}
	for i, s := range places() {
		want = append(want, dirs.File{Tree: 3, Path: s, Inode: []int{0, 2, 3, 4, 5, 6}[i]})
	}
	filesAre(t, d, want...)
	rot(t, d, 0, 0)
	rot(t, d, 1, 0)
	filesAre(t, d, want...)
}

func TestFilesThatAreOne(t *testing.T) {
	d := newDirs(t, 3)
	put(t, d, 0, dir(kid("a", file("x")), kid("b", file("x"))))
	put(t, d, 1, file("x"))
	share(t, d, 1, "/", 0)
	share(t, d, 0, "/b", 0)
	filesAre(t, d, dirs.File{Tree: 0, Path: "/a"}, dirs.File{Tree: 0, Path: "/b"}, dirs.File{Tree: 1, Path: "/"})
}

func TestFilesIsNewMemory(t *testing.T) {
	d := newDirs(t, 2)
	put(t, d, 0, file("x"))
	put(t, d, 1, file("y"))
	l := d.Files()
	l[0] = dirs.File{Tree: 1, Path: "/spoilt", Inode: 1}
	_ = append(l[:1], l[0])
	filesAre(t, d, dirs.File{Tree: 0, Path: "/"}, dirs.File{Tree: 1, Path: "/", Inode: 1})
}

func TestFilesOfNoDirs(t *testing.T) {
	none, _ := dirs.New(nil)
	filesAre(t, none)
	filesAre(t, &dirs.Dirs{})
}
