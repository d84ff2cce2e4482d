package scrub_test

import (
	"fmt"
	"slices"
	"strings"
	"testing"

	"stillroom/api"
	"stillroom/dirs"
	"stillroom/scrub"
	"stillroom/tree"
)

// draw makes numbers and trees from a number alone, so that each run sees the
// same ones.
type draw uint32

func (r *draw) below(n int) int {
	*r = *r*1664525 + 1013904223
	return int(*r>>16) % n
}

func (r *draw) node(deep int) api.Node {
	switch r.below(6) {
	case 0:
		return link("x")
	case 1, 2, 3:
		n := file(strings.Repeat("x", r.below(4)*(api.BlockSize-1)))
		n.Exec = r.below(4) == 0
		return n
	}
	n := dir()
	if deep == 0 {
		return n
	}
	for _, name := range []string{"a", "b", "b-", "b.c"} {
		if r.below(2) == 0 {
			n.Kids = append(n.Kids, kid(name, r.node(deep-1)))
		}
	}
	return n
}

// room is dirs, and beside them what is known without reading: the trees as
// they were put, and the bytes of their files.
type room struct {
	*dirs.Dirs
	trees map[int]api.Node
}

// files tells the bytes of each inode, and which files are it.
func (r *room) files() (map[int]string, map[int][]string) {
	data, at := map[int]string{}, map[int][]string{}
	for _, k := range r.Trees() {
		for _, s := range tree.Files(r.trees[k]) {
			n, _ := r.Inode(k, s)
			data[n] = fileAt(r.trees[k], s)
			at[n] = append(at[n], fmt.Sprint(k, s))
		}
	}
	return data, at
}

func fileAt(n api.Node, s string) string {
	for name := range strings.SplitSeq(strings.Trim(s, "/"), "/") {
		for _, k := range n.Kids {
			if k.Name == name {
				n = k.Node
				break
			}
		}
	}
	return n.Data
}

// stands: are these bytes in the inode's blocks?
func (r *room) stands(n int, data string) bool {
	s, _ := r.Table().Stat(n)
	got := ""
	for _, k := range s.Blocks {
		b, _ := r.Table().Disk().Read(k)
		got += b
	}
	return strings.HasPrefix(got, data)
}

// change puts a tree, drops one, lets one file be another's inode, turns a bit,
// writes by another hand, or lets the disk crash.
func (r *room) change(t *testing.T, d *draw) {
	t.Helper()
	b, l := r.Table().Disk(), r.Table().All()
	switch d.below(10) {
	case 0, 1:
		n := d.node(3)
		if k, err := r.Put(n); err == nil {
			r.trees[k] = n
		}
	case 2:
		if l := r.Trees(); len(l) > 0 {
			k := l[d.below(len(l))]
			drop(t, r.Dirs, k)
			delete(r.trees, k)
		}
	case 3:
		if f := r.Files(); len(f) > 0 {
			x := f[d.below(len(f))]
			_ = r.Share(x.Tree, x.Path, l[d.below(len(l))])
		}
	case 4:
		write(t, r.Table(), d.below(b.Len()), strings.Repeat("xz"[d.below(2):][:1], api.BlockSize))
	case 5:
		b.Crash([]int{d.below(3), d.below(3)})
	case 6, 7:
		rot(t, r.Table(), d.below(b.Len()), d.below(8)) // a first byte's: often turned back
	default:
		if len(l) > 0 {
			r.mend(t, l[d.below(len(l))], d.below(4))
		}
	}
}

// mend with the right bytes, or with others.
func (r *room) mend(t *testing.T, n, how int) {
	t.Helper()
	data, _ := r.files()
	s := data[n]
	switch {
	case how == 0:
		mendFails(t, r.Table(), n, s+"x", api.ErrSum)
	case how == 1 && s != "":
		mendFails(t, r.Table(), n, s[1:]+"y", api.ErrSum)
	case r.stands(n, s):
		mendFails(t, r.Table(), n, s, api.ErrExist)
	default:
		mends(t, r.Table(), n, s)
		r.Table().Disk().Crash(nil)
		reads(t, r.Table(), n, s)
	}
}

// well: what can't be read is told, and where it is; trees without any of it
// are read as they were.
func (r *room) well(t *testing.T) {
	t.Helper()
	data, at := r.files()
	var rotten []string
	var l []int
	for _, n := range r.Table().All() {
		if !r.stands(n, data[n]) {
			l = append(l, n)
			rotten = append(rotten, at[n]...)
		}
		where(t, r.Dirs, n, at[n]...)
	}
	scans(t, r.Table(), l...)
	for k, n := range r.trees {
		got, err := r.Get(k)
		bad := slices.ContainsFunc(rotten, func(s string) bool { return strings.HasPrefix(s, fmt.Sprint(k, "/")) })
		if bad && err != api.ErrSum || !bad && (err != nil || !tree.Same(got, n)) {
			t.Errorf("Get(%d): %v, %v, was %v", k, got, err, n)
		}
	}
}

// P102: what was mended is read as it was, whatever happened ahead of it.
func TestWhatWasMendedIsReadAsItWas(t *testing.T) {
	var d draw = 102
	for _, blocks := range []int{1, 4, 12, 40} {
		r := &room{newDirs(t, blocks), map[int]api.Node{}}
		for range 500 {
			r.change(t, &d)
			r.well(t)
			if t.Failed() {
				t.FailNow()
			}
		}
		r.mendAll(t)
	}
}

// mendAll: at the end all trees are read as they were.
func (r *room) mendAll(t *testing.T) {
	t.Helper()
	r.Table().Disk().Barrier() // a crash that takes a write away would bring back what rotted below it
	data, _ := r.files()
	for _, n := range scrub.Scan(r.Table()) {
		mends(t, r.Table(), n, data[n])
	}
	scans(t, r.Table())
	r.Table().Disk().Crash(nil)
	for k, n := range r.trees {
		gets(t, r.Dirs, k, n)
	}
}
