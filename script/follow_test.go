package script_test

import (
	"fmt"
	"strings"
	"testing"

	"stillroom/api"
)

// linked is a pack with links of many kinds.
func linked() []string {
	return []string{add("p", dir(
		kid("a", file("xy")),
		kid("b", dir(
			kid("a", file("z")),
			kid("away", link("../a")),
			kid("l", link("a")),
			kid("top", link("/")),
			kid("up", link(".."))))),
	), add("q", dir(
		kid("b", dir(kid("a", file("z")))),
		kid("bad", link("b/A")),
		kid("gone", link("b/q")),
		kid("l", link("b/./a")),
		kid("loop", link("loop")),
		kid("m", link("/l")),
		kid("x", link("b")))),
	}
}

func TestFollow(t *testing.T) {
	behind(t, linked(),
		"follow p /a", "/a", "follow p /b", "/b", "follow p /b/a", "/b/a", "follow p /b/away", "/a", "follow p /b/l", "/b/a",
		"follow q /l", "/b/a", "follow q /m", "/b/a", "follow q /x", "/b", "follow q /x/a", "/b/a")
}

func TestFollowToTheTop(t *testing.T) {
	behind(t, linked(), "follow p /", "/", "follow p /b/top", "/", "follow p /b/up", "/", "follow p /b/up/b/top/a", "/a", "follow q /", "/")
	for _, n := range []api.Node{file("x"), runs(""), link("x"), link("/"), dir(), nested(api.MaxDeep, dir())} {
		behind(t, []string{add("p", n)}, "follow p /", "/")
	}
}

func TestFollowToWhatIsNotThere(t *testing.T) {
	behind(t, linked(), "follow p /q", noneError, "follow p /a/a", noneError, "follow p /b/q", noneError, "follow p /b/l/a", noneError,
		"follow q /gone", noneError, "follow q /gone/a", noneError, "follow q /bad", nameError, "follow q /x/q", noneError)
	for _, n := range []api.Node{file("x"), link("x"), dir()} {
		behind(t, []string{add("p", n)}, "follow p /x", noneError)
	}
}

func TestFollowByAPathThatIsNone(t *testing.T) {
	for _, s := range []string{"", "a", "b/a", "//", "/a/", "//a", "/b//a", "/.", "/..", "/b/..", ".", "..", "/A", "/a\n", "/a,", "/" + strings.Repeat("a", api.MaxName+1), strings.Repeat("/a", api.MaxDeep+1)} {
		behind(t, linked(), "follow p "+s, nameError, "follow q "+s, nameError)
	}
}

func TestFollowTooManyLinks(t *testing.T) {
	n := dir(kid("a00", file("")))
	for i := 1; i <= api.MaxFollow+1; i++ {
		n.Kids = append(n.Kids, kid(fmt.Sprintf("a%02d", i), link(fmt.Sprintf("a%02d", i-1))))
	}
	behind(t, []string{add("p", n)}, "follow p /a01", "/a00", "follow p /a16", "/a00", "follow p /a17", deepError)
	behind(t, linked(), "follow q /loop", deepError, "follow q /loop/a", deepError)
}

// All files of a pack are read, also those that are not on the way.
func TestFollowInWhatRotted(t *testing.T) {
	behind(t, append(linked(), "rot 0 0"), "follow p /", sumError, "follow p /b/l", sumError, "follow p q", sumError, "follow q /l", "/b/a",
		"mend 0 xy", "ok", "follow p /b/l", "/b/a")
}
