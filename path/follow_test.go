package path_test

import (
	"fmt"
	"strings"
	"testing"

	"stillroom/api"
	"stillroom/path"
	"stillroom/tree"
)

func followFails(t *testing.T, about string, n api.Node, s string, want error) {
	t.Helper()
	if p, err := path.Follow(n, s); err != want || p != "" {
		t.Errorf("%s: follow %.40q: %q, %v, want %v", about, s, p, err, want)
	}
}

func follows(t *testing.T, about string, n api.Node, s, want string) {
	t.Helper()
	if p, err := path.Follow(n, s); err != nil || p != want {
		t.Errorf("%s: follow %.40q: %q, %v, want %q", about, s, p, err, want)
	}
}

// linked is a tree for one link: it stands at /b/l, and at /l as well.
func linked(to string) api.Node {
	return dir(
		kid("...", file("")),
		kid("a", file("xy")),
		kid("b", dir(
			kid("a", file("z")),
			kid("c", dir(kid("d", file("")), kid("up", link("..")))),
			kid("l", link(to)),
			kid("to", link("c")))),
		kid("c", dir()),
		kid("l", link(to)),
		kid("loop", link("loop")),
		kid("to", link("b/c")))
}

func TestFollowNoLinks(t *testing.T) {
	n := sample()
	for _, s := range []string{"/", "/a", "/b", "/b/a", "/b/b", "/b/b/a", "/b/c", "/b/d", "/b.c", "/c/b/long-name.12"} {
		follows(t, "no links", n, s, s)
	}
	follows(t, "MaxDeep met", under(api.MaxDeep, file("x")), down(api.MaxDeep), down(api.MaxDeep))
	for about, n := range map[string]api.Node{"a file": file("x"), "a link": link("x"), "a link to itself": link("/"), "an empty dir": dir()} {
		follows(t, about, n, "/", "/")
		followFails(t, about, n, "/x", api.ErrNone)
	}
}

func TestFollow(t *testing.T) {
	for _, c := range []struct{ to, top, b string }{ // where the link goes from the top, and from b
		{"a", "/a", "/b/a"},
		{"/a", "/a", "/a"},
		{"./a", "/a", "/b/a"},
		{"../a", "/a", "/a"},
		{"../../../a", "/a", "/a"},
		{".", "/", "/b"},
		{"..", "/", "/"},
		{"../..", "/", "/"},
		{"/", "/", "/"},
		{"//", "/", "/"},
		{"/.", "/", "/"},
		{"/..", "/", "/"},
		{"/../b", "/b", "/b"},
		{"c/", "/c", "/b/c"},
		{"c//", "/c", "/b/c"},
		{"c/.", "/c", "/b/c"},
		{"c/..", "/", "/b"},
		{"c/../c/./../a", "/a", "/b/a"},
		{"/b/c/", "/b/c", "/b/c"},
		{"//b//c", "/b/c", "/b/c"},
		{"/b/././c/d", "/b/c/d", "/b/c/d"},
		{"a/", "/a", "/b/a"},
		{"a/.", "/a", "/b/a"},
		{"a/..", "/", "/b"},
		{"a/../c", "/c", "/b/c"},
		{"to", "/b/c", "/b/c"},
		{"to/", "/b/c", "/b/c"},
		{"to/d", "/b/c/d", "/b/c/d"},
		{"to/..", "/b", "/b"},
		{"to/up", "/b", "/b"},
		{"to/../a", "/b/a", "/b/a"},
		{"/to/up/to/up/a", "/b/a", "/b/a"},
		{"/...", "/...", "/..."},
		{"/b/c/../../../../...", "/...", "/..."},
	} {
		follows(t, c.to, linked(c.to), "/l", c.top)
		follows(t, c.to, linked(c.to), "/b/l", c.b)
	}
}

func TestFollowOnTheWay(t *testing.T) {
	n := linked("/b")
	for s, want := range map[string]string{
		"/l/a": "/b/a", "/l/c/d": "/b/c/d", "/b/l/a": "/b/a", "/l/l": "/b", "/l/l/l/a": "/b/a",
		"/to": "/b/c", "/to/d": "/b/c/d", "/to/up": "/b", "/to/up/a": "/b/a", "/to/up/to/d": "/b/c/d", "/l/to/up/l/to/d": "/b/c/d",
	} {
		follows(t, "on the way", n, s, want)
	}
	for _, s := range []string{"/l/z", "/to/a", "/to/d/a", "/to/up/z", "/l/a/a", "/a/l", "/z/l", "/z"} {
		followFails(t, "on the way", n, s, api.ErrNone)
	}
}

func TestFollowLoops(t *testing.T) {
	for _, to := range []string{"l", "./l", "/l", "l/", "l/a", "l/..", "loop", "/loop/a", "../l", "/b/l", "b/../l"} {
		followFails(t, to, linked(to), "/l", api.ErrDeep)
	}
	n := dir(kid("a", link("b")), kid("b", link("/c/d")), kid("c", dir(kid("d", link("../a")))))
	for _, s := range []string{"/a", "/b", "/c/d", "/a/z", "/c/d/z"} {
		followFails(t, "links in a ring", n, s, api.ErrDeep)
	}
	follows(t, "a dir ahead of a ring", n, "/c", "/c")
}

// chain has links a01 to a30, each to the one ahead of it, and a00, where they end.
func chain(end api.Node) api.Node {
	n := dir(kid("a00", end))
	for k := 1; k <= 30; k++ {
		n.Kids = append(n.Kids, kid(fmt.Sprintf("a%02d", k), link(fmt.Sprintf("a%02d", k-1))))
	}
	return n
}

func TestFollowMany(t *testing.T) {
	n := chain(file("x"))
	for k := 1; k <= 30; k++ {
		s := fmt.Sprintf("/a%02d", k)
		if k <= api.MaxFollow {
			follows(t, "MaxFollow met", n, s, "/a00")
			followFails(t, "MaxFollow met, behind a file", n, s+"/z", api.ErrNone)
			continue
		}
		followFails(t, "MaxFollow past", n, s, api.ErrDeep)
		followFails(t, "MaxFollow past, and more", n, s+"/z", api.ErrDeep)
	}
	n = chain(dir(kid("f", file("")), kid("l", link("f"))))
	follows(t, "MaxFollow met ahead of a file", n, "/a16/f", "/a00/f")
	follows(t, "MaxFollow met by the last name", n, "/a15/l", "/a00/f")
	followFails(t, "MaxFollow past by the last name", n, "/a16/l", api.ErrDeep)
}

// One link counts as often as it is followed; names that stay or go up are none.
func TestFollowOneOften(t *testing.T) {
	at := func(names int) api.Node {
		return dir(kid("l", link(strings.Repeat("x/", names-1)+"x")), kid("x", link(".")))
	}
	follows(t, "MaxFollow met", at(api.MaxFollow-1), "/l", "/")
	followFails(t, "MaxFollow past", at(api.MaxFollow), "/l", api.ErrDeep)
	follows(t, "MaxFollow met over two names", at(api.MaxFollow/2-1), "/l/l", "/")
	followFails(t, "MaxFollow past over three", at(api.MaxFollow/2-1), "/l/l/x", api.ErrDeep)
	n := dir(kid("d", dir()), kid("l", link(strings.Repeat("./", 19)+"/d")))
	follows(t, "names that stay", n, "/l", "/d")
	n.Kids[1].Node = link(strings.Repeat("d/../", 7) + "d")
	follows(t, "more than MaxDeep names, some of them up", n, "/l", "/d")
	n.Kids[1].Node = link(strings.Repeat("/", 39) + "d")
	follows(t, "empty names", n, "/l", "/d")
}

// Where a path would have more than MaxDeep names only behind a link, there is
// no such: what was handed over has no more.
func TestFollowDeep(t *testing.T) {
	n := dir(kid("d", under(api.MaxDeep-1, file("x"))), kid("l", link(down(api.MaxDeep-1))), kid("m", link(down(api.MaxDeep+1))))
	follows(t, "MaxDeep met behind a link", n, "/l/d", down(api.MaxDeep))
	followFails(t, "MaxDeep past behind a link", n, "/l/d/d", api.ErrNone)
	followFails(t, "MaxDeep past by a link", n, "/m", api.ErrNone)
	followFails(t, "MaxDeep past", n, down(api.MaxDeep+1), api.ErrName)
}

func TestFollowNames(t *testing.T) {
	for _, to := range []string{"A", "/A", "./A", "../A", "c/A", "/b/A", "c/../A", "a_b", "~", "#a", "a:", "\\", "A/", "A/..", "A/a", bytes(api.MaxName + 1), "c/" + bytes(api.MaxName+1), "..A", "/b/c/A"} {
		followFails(t, to, linked(to), "/l", api.ErrName)
		followFails(t, to, linked(to), "/b/l", api.ErrName)
	}
	follows(t, "MaxName met", dir(kid("l", link(bytes(api.MaxName))), kid(bytes(api.MaxName), file(""))), "/l", "/"+bytes(api.MaxName))
	followFails(t, "MaxName met, not there", linked(bytes(api.MaxName)), "/l", api.ErrNone)
}

// Errors are told as they come, name by name.
func TestFollowFirstError(t *testing.T) {
	for _, c := range []struct {
		about, to string
		want      error
	}{
		{"none ahead of no name", "z/A", api.ErrNone},
		{"no name ahead of none", "A/z", api.ErrName},
		{"no name behind a file", "a/A", api.ErrName},
		{"none behind a file ahead of no name", "a/z/A", api.ErrNone},
		{"none, and up again", "z/..", api.ErrNone},
		{"none where a link's link led", "to/up/up", api.ErrNone},
		{"no name, and up again", "A/..", api.ErrName},
		{"behind a file, and up again", "a/z/../..", api.ErrNone},
		{"no name ahead of a loop", "A/loop", api.ErrName},
		{"a loop ahead of no name", "/loop/A", api.ErrDeep},
		{"none ahead of a loop", "z/loop", api.ErrNone},
		{"a loop ahead of none", "/loop/z", api.ErrDeep},
		{"a loop behind a file", "a/loop", api.ErrNone},
	} {
		followFails(t, c.about, linked(c.to), "/l", c.want)
		followFails(t, c.about, linked(c.to), "/b/l", c.want)
		followFails(t, c.about+", on the way", linked(c.to), "/l/a", c.want)
	}
	for end, want := range map[string]error{"z": api.ErrNone, "A": api.ErrName} {
		n := chain(link(end))
		followFails(t, "MaxFollow met", n, "/a15", want)
		followFails(t, "MaxFollow past", n, "/a16", api.ErrDeep)
		followFails(t, "none ahead of the links", n, "/z/a16", api.ErrNone)
	}
	for _, s := range noPaths() {
		followFails(t, "no path", linked("a"), s, api.ErrName)
	}
	followFails(t, "no path, none and a loop", linked("l"), "/z/l/A", api.ErrName)
	for _, c := range unwells() {
		for _, s := range []string{"/", "/a", "/zz/a", "", "A", down(api.MaxDeep + 1)} {
			followFails(t, c.about, c.n, s, c.want)
		}
	}
	followFails(t, "a dir in itself", endless(), "/a", api.ErrDeep)
}

func TestFollowOnlyReads(t *testing.T) {
	n := linked("/b/../to/up/./c/")
	for _, s := range []string{"/", "/l", "/b/l", "/l/up/l", "/loop", "/l/z"} {
		path.Follow(n, s)
		if !tree.Same(n, linked("/b/../to/up/./c/")) {
			t.Fatal(s, "what was handed over is changed")
		}
	}
}
