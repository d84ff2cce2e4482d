package scrub_test

import (
	"math"
	"testing"

	"stillroom/api"
	"stillroom/dirs"
	"stillroom/scrub"
)

func TestWhere(t *testing.T) {
	d := newDirs(t, 9, dir(kid("a", file("xy")), kid("b", dir(kid("c", file("z"))))), dir(kid("a", dir(kid("b", file("w"))))))
	where(t, d, 0, "0/a")
	where(t, d, 1, "0/b/c")
	where(t, d, 2, "1/a/b")
}

func TestWhereAtTheTop(t *testing.T) {
	d := newDirs(t, 9, file("x"), file("y"), file(""))
	where(t, d, 0, "0/")
	where(t, d, 1, "1/")
	where(t, d, 2, "2/")
	share(t, d, 0, "/", 0)
	where(t, d, 0, "0/")
}

// Names in it stand as they are, at most api.MaxDeep of them.
func TestWhereDeep(t *testing.T) {
	n := file("x")
	for range api.MaxDeep {
		n = dir(kid("long-name.12", n))
	}
	d := newDirs(t, 9, n)
	want := "0"
	for range api.MaxDeep {
		want += "/long-name.12"
	}
	where(t, d, 0, want)
}

// tree.Files' order is not that of the paths' bytes: /b.c would stand ahead of
// /b/a, and /b-/a ahead of both.
func TestWhereWithinOneTree(t *testing.T) {
	d := newDirs(t, 9, dir(
		kid("a", file("x")),
		kid("b", dir(kid("a", file("x")), kid("b", file("y")))),
		kid("b-", dir(kid("a", file("x")))),
		kid("b.c", file("x")),
		kid("c", file("y"))))
	for _, s := range []string{"/b.c", "/b-/a", "/b/a"} {
		share(t, d, 0, s, 0)
	}
	where(t, d, 0, "0/a", "0/b/a", "0/b-/a", "0/b.c")
	where(t, d, 2, "0/b/b")
	where(t, d, 5, "0/c")
	where(t, d, 1)
}

// Whichever came to be it first, it is told tree by tree.
func TestWhereInTwoTrees(t *testing.T) {
	d := newDirs(t, 9,
		dir(kid("a", file("x")), kid("b", file("y")), kid("c", file("x"))),
		file("y"),
		dir(kid("a", dir(kid("z", file("x")))), kid("b", file("x"))))
	share(t, d, 0, "/c", 5)
	share(t, d, 2, "/a/z", 5)
	share(t, d, 0, "/a", 5)
	share(t, d, 0, "/b", 3)
	where(t, d, 5, "0/a", "0/c", "2/a/z", "2/b")
	where(t, d, 3, "0/b", "1/")
	where(t, d, 0)
}

// In order of their numbers trees 9 and 10 do not stand as texts would.
func TestWhereGoesByNumbersOfTrees(t *testing.T) {
	d := newDirs(t, 20)
	for range 12 {
		put(t, d, file("x"))
	}
	for k := 11; k >= 0; k-- {
		share(t, d, k, "/", 2)
	}
	for range 8 {
		where(t, d, 2, "0/", "1/", "2/", "3/", "4/", "5/", "6/", "7/", "8/", "9/", "10/", "11/")
	}
	for _, k := range []int{0, 2, 3, 4, 5, 6, 7, 8} {
		drop(t, d, k)
	}
	where(t, d, 2, "1/", "9/", "10/", "11/")
}

// A number that is given anew is another file's.
func TestWhereOfANumberThatIsGivenAnew(t *testing.T) {
	d := newDirs(t, 9, file("x"), file("y"))
	drop(t, d, 0)
	where(t, d, 0)
	put(t, d, dir(kid("a", file("z"))))
	where(t, d, 0, "2/a")
	where(t, d, 1, "1/")
}

func TestWhereOfNoFile(t *testing.T) {
	d := newDirs(t, 9, dir(kid("a", link("b")), kid("b", dir())), file("x"))
	n, err := d.Table().Make("x", false)
	if n != 1 || err != nil {
		t.Fatalf("Make: %d, %v", n, err)
	}
	where(t, d, 0, "1/")
	for _, n := range []int{n, 2, -1, math.MaxInt, math.MinInt} {
		where(t, d, n)
	}
}

// Trees that can't be got are those that are asked for.
func TestWhereOfWhatRotted(t *testing.T) {
	n := dir(kid("a", file("x")), kid("b", file("y")))
	d := newDirs(t, 9, n, file("y"))
	share(t, d, 1, "/", 1)
	rot(t, d.Table(), 1, 0)
	scans(t, d.Table(), 1)
	where(t, d, 0, "0/a")
	where(t, d, 1, "0/b", "1/")
	mends(t, d.Table(), 1, "y")
	where(t, d, 1, "0/b", "1/")
	gets(t, d, 0, n)
	gets(t, d, 1, file("y"))
}

func TestWhereOfNil(t *testing.T) {
	for _, n := range []int{-1, 0, 1, math.MaxInt} {
		for _, d := range []*dirs.Dirs{nil, {}, newDirs(t, 1)} {
			if l := scrub.Where(d, n); len(l) != 0 {
				t.Errorf("Where(%d): %q", n, l)
			}
		}
	}
}

// P4: each list is new memory.
func TestWhereIsNewMemory(t *testing.T) {
	d := newDirs(t, 9, file("x"), file("x"))
	share(t, d, 1, "/", 0)
	l := scrub.Where(d, 0)
	l[0], l[1] = "spoilt", "spoilt"
	_ = append(l, "spoilt")
	where(t, d, 0, "0/", "1/")
}
