package opt_test

import (
	"slices"
	"strings"
	"testing"

	"stillroom/api"
	"stillroom/opt"
	"stillroom/tree"
)

// next is the step that P90 asks for, told slowly: each file is held against
// each inode ahead of it. -1: there is none.
func (r *room) next(files []named) (at, to int) {
	for i, f := range files {
		x, is := r.node(f.inode)
		if !is {
			continue
		}
		for n := range f.inode {
			if y, is := r.node(n); is && tree.Same(x, y) {
				return i, n
			}
		}
	}
	return -1, 0
}

// stepsFrom are the files behind so many steps at most, and how many there
// were. The table stays as it is: an inode that would be gone is no file's any
// more, and was never the least one of its kind.
func (r *room) stepsFrom(most int) ([]named, int) {
	files := r.files()
	for n := range most {
		at, to := r.next(files)
		if at < 0 {
			return files, n
		}
		files[at].inode = to
	}
	return files, most
}

func fills(x api.Node) int { return (len(x.Data) + api.BlockSize - 1) / api.BlockSize }

// savedBlocks are counted from the trees as they were put: what their files
// fill, less what is used.
func (r *room) savedBlocks() int {
	blocks := 0
	for _, n := range r.trees {
		blocks += bytesFill(n)
	}
	return blocks - (r.blocks - r.Table().Free())
}

func bytesFill(n api.Node) int {
	if n.Kind == "file" {
		return fills(n)
	}
	blocks := 0
	for _, k := range n.Kids {
		blocks += bytesFill(k.Node)
	}
	return blocks
}

// noneAlike: P92: no two inodes that can be read are alike.
func (r *room) noneAlike(t *testing.T) {
	t.Helper()
	l := r.Table().All()
	for i, a := range l {
		x, is := r.node(a)
		for _, b := range l[:i] {
			if y, too := r.node(b); is && too && tree.Same(x, y) {
				t.Errorf("inodes %d and %d are alike", b, a)
			}
		}
	}
}

// draw makes numbers and trees from a number alone, so that each run sees the
// same ones.
type draw uint32

func (r *draw) below(n int) int {
	*r = *r*1664525 + 1013904223
	return int(*r>>16) % n
}

// node has files that are often alike.
func (r *draw) node(deep int) api.Node {
	switch r.below(6) {
	case 0:
		return link(strings.Repeat("x", 1+r.below(3)))
	case 1, 2, 3:
		n := file(strings.Repeat("x", r.below(4)*(api.BlockSize-1)))
		n.Exec = r.below(4) == 0
		return n
	}
	n := dir()
	if deep == 0 {
		return n
	}
	for _, name := range []string{"-", "a", "b", "b-", "b.c", "c"} {
		if r.below(2) == 0 {
			n.Kids = append(n.Kids, kid(name, r.node(deep-1)))
		}
	}
	return n
}

// change puts a tree, drops one, lets one file be another's inode, or turns a
// bit; where there is no room, or nothing alike, nothing happens.
func (r *room) change(t *testing.T, d *draw) {
	t.Helper()
	switch d.below(8) {
	case 0, 1, 2:
		n := d.node(3)
		if k, err := r.Put(n); err == nil {
			r.trees[k] = n
		}
	case 3:
		if l := r.Trees(); len(l) > 0 {
			r.drop(t, l[d.below(len(l))])
		}
	case 4, 5, 6:
		if l := r.files(); len(l) > 0 {
			f := l[d.below(len(l))]
			_ = r.Share(f.tree, f.path, l[d.below(len(l))].inode)
		}
	default:
		r.rot(t, d.below(r.blocks), d.below(8)) // a first byte's: often turned back
	}
}

func (r *room) stepped(t *testing.T) {
	t.Helper()
	want, n := r.stepsFrom(1)
	if is, err := opt.Step(r.Dirs); is != (n == 1) || err != nil {
		t.Errorf("Step: %v, %v, want %d", is, err, n)
	}
	if got := r.files(); !slices.Equal(got, want) {
		t.Errorf("Step: %s, want %s", told(got), told(want))
	}
}

func (r *room) allStepped(t *testing.T) {
	t.Helper()
	want, n := r.stepsFrom(len(r.files()) + 1)
	if got, err := opt.All(r.Dirs); got != n || err != nil {
		t.Errorf("All: %d, %v, want %d", got, err, n)
	}
	if got := r.files(); !slices.Equal(got, want) {
		t.Errorf("All: %s, want %s", told(got), told(want))
	}
	r.noneAlike(t)
	r.none(t)
}

func TestTreesAreReadAsTheyWere(t *testing.T) {
	var d draw = 92
	for _, blocks := range []int{1, 5, 20, 60} {
		r := newRoom(t, blocks)
		for range 400 {
			r.change(t, &d)
			switch d.below(12) {
			case 0:
				r.allStepped(t)
			case 1, 2, 3:
				r.stepped(t)
			}
			r.well(t)
			if got, want := opt.Saved(r.Dirs), r.savedBlocks(); got != want {
				t.Errorf("%d blocks are saved, want %d", got, want)
			}
			if t.Failed() {
				t.FailNow()
			}
		}
	}
}

// P2: what is made alike answers alike, whatever order maps are gone through in.
func TestStepsAreTheSameEachTime(t *testing.T) {
	var all []string
	for range 8 {
		var d draw = 7
		r := newRoom(t, 60)
		var b strings.Builder
		for range 60 {
			r.change(t, &d)
			if d.below(3) == 0 {
				r.stepped(t)
			}
			b.WriteString(r.all())
		}
		all = append(all, b.String())
	}
	if all = slices.Compact(all); len(all) != 1 {
		t.Errorf("%d ways of %d", len(all), 8)
	}
}
