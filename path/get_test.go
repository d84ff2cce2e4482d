package path_test

import (
	"testing"

	"stillroom/api"
	"stillroom/path"
	"stillroom/tree"
)

// getFails wants the very error, and no node with it.
func getFails(t *testing.T, about string, n api.Node, s string, want error) {
	t.Helper()
	if x, err := path.Get(n, s); err != want || !tree.Same(x, api.Node{}) {
		t.Errorf("%s: get %.40q: %v, %v, want %v", about, s, x, err, want)
	}
}

func gets(t *testing.T, n api.Node, s string, want api.Node) {
	t.Helper()
	if x, err := path.Get(n, s); err != nil || !tree.Same(x, want) {
		t.Errorf("get %.40q: %v, %v, want %v", s, x, err, want)
	}
}

func TestGet(t *testing.T) {
	n := sample()
	for s, want := range map[string]api.Node{
		"/":                 n,
		"/-":                link(".."),
		"/a":                file("xy"),
		"/b":                dir(kid("a", runs("z")), kid("b", dir(kid("a", file("")), kid("b", link("/a")))), kid("c", dir()), kid("d", file("four"))),
		"/b/a":              runs("z"),
		"/b/b":              dir(kid("a", file("")), kid("b", link("/a"))),
		"/b/b/a":            file(""),
		"/b/b/b":            link("/a"),
		"/b/c":              dir(),
		"/b/d":              file("four"),
		"/b.c":              file("\x00\xff\n"),
		"/c/b/long-name.12": runs("12345"),
		"/to":               link("b"),
	} {
		gets(t, n, s, want)
	}
	for _, n := range []api.Node{file("x"), link("x"), dir()} {
		gets(t, n, "/", n)
	}
}

// Every kid of dirs of many sizes, so that each turn of the halving is taken.
func TestGetEachOfMany(t *testing.T) {
	for size := range api.MaxNodes {
		n := dir(files(size)...)
		for i := range n.Kids {
			n.Kids[i].Node.Data = n.Kids[i].Name
		}
		for _, k := range n.Kids {
			gets(t, n, "/"+k.Name, k.Node)
			getFails(t, "behind a kid", n, "/"+k.Name+"-", api.ErrNone)
		}
		getFails(t, "ahead of all", n, "/a", api.ErrNone)
		getFails(t, "behind all", n, "/z", api.ErrNone)
	}
}

func TestGetDeep(t *testing.T) {
	gets(t, under(api.MaxDeep, file("x")), down(api.MaxDeep), file("x"))
	gets(t, under(api.MaxDeep, dir()), down(api.MaxDeep), dir())
	getFails(t, "MaxDeep met, and not there", under(api.MaxDeep-1, dir()), down(api.MaxDeep), api.ErrNone)
	getFails(t, "MaxDeep past", under(api.MaxDeep, dir()), down(api.MaxDeep+1), api.ErrName)
}

func TestGetNone(t *testing.T) {
	for _, s := range []string{
		"/0", "/aa", "/z", "/b/z", "/b/b/c", "/b.d", "/b.", "/xy",
		"/a/b", "/a/a", "/b/a/z", "/b/c/a", // behind a file, in an empty dir
		"/to/a", "/to/b/a", "/-/a", "/b/b/b/a", "/z/a", // a link is not followed
	} {
		getFails(t, "not there", sample(), s, api.ErrNone)
	}
	for about, n := range map[string]api.Node{"a file": file("a"), "a link": link("a"), "an empty dir": dir()} {
		getFails(t, about, n, "/a", api.ErrNone)
	}
}

func TestGetFirstError(t *testing.T) {
	for _, s := range noPaths() {
		getFails(t, "no path", sample(), s, api.ErrName)
		getFails(t, "no path of a file", file(""), s, api.ErrName)
	}
	for _, c := range unwells() {
		for _, s := range []string{"/", "/a", "/zz/a", "", "A", down(api.MaxDeep + 1)} {
			getFails(t, c.about, c.n, s, c.want)
		}
	}
	getFails(t, "a dir in itself", endless(), "/a", api.ErrDeep)
}

func TestGetGivesNewMemory(t *testing.T) {
	n := sample()
	for _, s := range places() {
		x, _ := path.Get(n, s)
		spoil(x)
		if !tree.Same(n, sample()) {
			t.Fatal(s, "what is written into an answer shows in what was handed over")
		}
		x, _ = path.Get(n, s)
		spoil(n)
		n = sample()
		gets(t, n, s, x)
	}
}

// spoil writes into every list of a node.
func spoil(n api.Node) {
	for i := range n.Kids {
		spoil(n.Kids[i].Node)
		n.Kids[i] = kid("spoilt", link("spoilt"))
	}
}
