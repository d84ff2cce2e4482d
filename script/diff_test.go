package script_test

import (
	"fmt"
	"strings"
	"testing"

	"stillroom/api"
)

func TestDiff(t *testing.T) {
	old := dir(kid("a", file("1")), kid("b", dir(kid("x", file("2")), kid("y", link("x")))), kid("c", runs("3")), kid("e", file("same")))
	made := dir(kid("a", file("11")), kid("b", dir(kid("w", file("2")), kid("y", link("w")))), kid("c", file("3")), kid("d", dir(kid("z", file("4")))), kid("e", file("same")))
	behind(t, []string{add("old", old), add("new", made)},
		"diff old new", "edit:/a add:/b/w drop:/b/x edit:/b/y edit:/c add:/d",
		"diff new old", "edit:/a drop:/b/w add:/b/x edit:/b/y edit:/c drop:/d",
		"diff old old", "nothing", "diff new new", "nothing")
}

// A pack with itself, and with one whose tree is alike: also where both are the
// same inodes.
func TestDiffOfWhatIsAlike(t *testing.T) {
	for _, c := range []struct {
		n     api.Node
		steps string
	}{
		{file(""), "1"}, {file("x"), "1"}, {runs("x"), "1"}, {link("x"), "0"}, {dir(), "0"},
		{dir(kid("a", dir(kid("b", file("x"))))), "1"}, {wide(99), "197"},
	} {
		behind(t, []string{add("p", c.n), add("q", c.n)}, "diff p p", "nothing", "diff p q", "nothing", "diff q p", "nothing",
			"opt", c.steps, "diff p p", "nothing", "diff p q", "nothing", "diff q p", "nothing")
	}
}

// What is not a dir on both sides is one edit of the top.
func TestDiffOfTops(t *testing.T) {
	tops := []api.Node{file(""), file("x"), runs("x"), link("x"), link("y"), dir(), dir(kid("a", file("x")))}
	for i, n := range tops {
		for j, m := range tops {
			want := "edit:/"
			switch {
			case i == j:
				want = "nothing"
			case n.Kind == "dir" && m.Kind == "dir" && i < j:
				want = "add:/a"
			case n.Kind == "dir" && m.Kind == "dir":
				want = "drop:/a"
			}
			behind(t, []string{add("p", n), add("q", m)}, "diff p q", want)
		}
	}
}

// As many changes as a tree has nodes at most.
func TestDiffOfMany(t *testing.T) {
	var adds, drops []string
	for i := range api.MaxNodes - 1 {
		adds, drops = append(adds, fmt.Sprintf("add:/k%03d", i)), append(drops, fmt.Sprintf("drop:/k%03d", i))
	}
	behind(t, []string{add("p", wide(api.MaxNodes-1)), "add q d0:"}, "diff q p", strings.Join(adds, " "), "diff p q", strings.Join(drops, " "))
}

// One of the two can't be read, though the other can: whichever it is.
func TestDiffOfWhatRotted(t *testing.T) {
	for _, line := range []string{"rot 0 0", "rot 1 0"} {
		behind(t, append(some(), line), "diff a b", sumError, "diff b a", sumError, line, "ok", "diff a b", "edit:/f drop:/l add:/x")
	}
	behind(t, append(some(), "rot 0 0"), "diff a a", sumError, "diff b b", "nothing", "mend 0 hi", "ok", "diff a a", "nothing", "diff b a", "edit:/f add:/l drop:/x")
}
