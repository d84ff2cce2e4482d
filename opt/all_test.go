package opt_test

import (
	"fmt"
	"testing"

	"stillroom/api"
	"stillroom/opt"
)

func TestAll(t *testing.T) {
	r := newRoom(t, 20,
		dir(kid("a", file(long(20))), kid("b", dir(kid("c", file("x")), kid("d", runs("x")))), kid("b.c", file(""))),
		dir(kid("a", runs("x")), kid("b", file(long(20))), kid("c", file(""))),
		file("x"), file("alone"))
	r.steps(t, 4, "0/a=0 0/b/c=1 0/b/d=2 0/b.c=3 1/a=2 1/b=0 1/c=3 2/=1 3/=8")
}

// Files that are an inode together are as many steps.
func TestAllOfFilesThatShareAlready(t *testing.T) {
	r := newRoom(t, 9, file("x"), file("x"), file("x"), file("x"), file("x"))
	r.share(t, 1, "/", 4)
	r.share(t, 2, "/", 4)
	r.share(t, 3, "/", 0)
	r.steps(t, 3, "0/=0 1/=0 2/=0 3/=0 4/=0")
}

func TestAllBehindSteps(t *testing.T) {
	r := newRoom(t, 9, file("x"), file("x"), file("x"), file("x"))
	r.step(t, "0/=0 1/=0 2/=2 3/=3")
	r.steps(t, 2, "0/=0 1/=0 2/=0 3/=0")
	r.put(t, dir(kid("a", file("x")), kid("b", file("y")), kid("c", file("y"))))
	r.steps(t, 2, "0/=0 1/=0 2/=0 3/=0 4/a=0 4/b=2 4/c=2")
}

// The most nodes of a tree, files of the most bytes, the most blocks.
func TestAllOfMany(t *testing.T) {
	var kids []api.Kid
	for i := range api.MaxNodes - 1 {
		kids = append(kids, kid(fmt.Sprintf("f%03d", i), file("")))
	}
	kids[0].Node = file(long(api.MaxData))
	kids[api.MaxNodes-2].Node = file(long(api.MaxData))
	r := newRoom(t, api.MaxBlocks, dir(kids...), dir(kids...))
	for i := range kids {
		kids[i].Node = file("")
	}
	for range 20 {
		r.put(t, dir(kids...))
	}
	r.saves(t, 0, 12)
	if n, err := opt.All(r.Dirs); n != 22*(api.MaxNodes-1)-2 || err != nil {
		t.Errorf("All: %d, %v", n, err)
	}
	if got := fmt.Sprint(r.Table().All()); got != "[0 1]" {
		t.Errorf("inodes %s", got)
	}
	r.saves(t, 375, 387)
	r.well(t)
}

// The table is laid open: where another hand took links away, an inode goes
// ahead of the last file that is it. All makes the steps that Step does.
func TestTableIsChangedByAnother(t *testing.T) {
	for _, all := range []func(r *room) int{
		func(r *room) int {
			n, err := opt.All(r.Dirs)
			if err != nil {
				t.Errorf("All: %v", err)
			}
			return n
		},
		func(r *room) int {
			for n := 0; ; n++ {
				if is, err := opt.Step(r.Dirs); !is || err != nil {
					return n
				}
			}
		},
	} {
		r := newRoom(t, 9, file("x"), file("x"), file("x"), file("x"), file("gone"), file("gone"))
		r.share(t, 2, "/", 1)
		for _, n := range []int{1, 4} {
			if err := r.Table().Unlink(n); err != nil {
				t.Fatal(err)
			}
		}
		if n := all(r); n != 2 {
			t.Errorf("%d steps", n)
		}
		if got := told(r.files()); got != "0/=0 1/=0 2/=1 3/=0 4/=4 5/=5" {
			t.Errorf("files %s", got)
		}
		if got := fmt.Sprint(r.Table().All()); got != "[0 5]" {
			t.Errorf("inodes %s", got)
		}
	}
}
