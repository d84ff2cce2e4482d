package path_test

import (
	"testing"

	"stillroom/api"
	"stillroom/path"
	"stillroom/tree"
)

func putFails(t *testing.T, about string, n api.Node, s string, x api.Node, want error) {
	t.Helper()
	if y, err := path.Put(n, s, x); err != want || !tree.Same(y, api.Node{}) {
		t.Errorf("%s: put %.40q: %v, want %v", about, s, err, want)
	}
}

func puts(t *testing.T, about string, n api.Node, s string, x, want api.Node) {
	t.Helper()
	y, err := path.Put(n, s, x)
	if err != nil || !tree.Same(y, want) {
		t.Errorf("%s: put %.40q: %v, %v, want %v", about, s, y, err, want)
	}
}

func TestPut(t *testing.T) {
	a, b, c, q := kid("a", file("1")), kid("b", runs("2")), kid("c", link("3")), file("q")
	for _, w := range []struct {
		about   string
		n       api.Node
		s       string
		x, want api.Node
	}{
		{"into an empty dir", dir(), "/q", q, dir(kid("q", q))},
		{"ahead of all", dir(a, b, c), "/0", q, dir(kid("0", q), a, b, c)},
		{"behind all", dir(a, b, c), "/q", q, dir(a, b, c, kid("q", q))},
		{"between", dir(a, b, c), "/a-", q, dir(a, kid("a-", q), b, c)},
		{"in the place of the first", dir(a, b, c), "/a", q, dir(kid("a", q), b, c)},
		{"in the place of the middle one", dir(a, b, c), "/b", q, dir(a, kid("b", q), c)},
		{"in the place of the last", dir(a, b, c), "/c", q, dir(a, b, kid("c", q))},
		{"in the place of all", dir(a, b, c), "/", q, q},
		{"a dir in the place of all", file("x"), "/", dir(a, b), dir(a, b)},
		{"a link in the place of all", link("x"), "/", link("y"), link("y")},
		{"a dir in the place of a file", dir(a, b), "/a", dir(b, c), dir(kid("a", dir(b, c)), b)},
		{"a file in the place of a dir", dir(kid("a", dir(b, c)), b), "/a", q, dir(kid("a", q), b)},
		{"a link's place, not where it goes", dir(a, kid("b", link("a"))), "/b", q, dir(a, kid("b", q))},
		{"deeper, new", dir(a, kid("b", dir(kid("b", dir(c))))), "/b/b/a", q, dir(a, kid("b", dir(kid("b", dir(kid("a", q), c)))))},
		{"deeper, there", dir(a, kid("b", dir(kid("b", dir(c))))), "/b/b/c", q, dir(a, kid("b", dir(kid("b", dir(kid("c", q))))))},
		{"itself again", dir(a, b), "/b", runs("2"), dir(a, b)},
		{"itself into itself", dir(a), "/b", dir(a), dir(a, kid("b", dir(a)))},
	} {
		puts(t, w.about, w.n, w.s, w.x, w.want)
	}
}

func TestPutEdges(t *testing.T) {
	q, last := file("q"), "/"+bytes(api.MaxName)
	puts(t, "MaxDeep met", under(api.MaxDeep-1, dir()), down(api.MaxDeep), q, under(api.MaxDeep, q))
	puts(t, "MaxDeep met by a kid", under(api.MaxDeep-2, dir()), down(api.MaxDeep-1), dir(kid("d", q)), under(api.MaxDeep, q))
	puts(t, "MaxName met", dir(), last, q, dir(kid(bytes(api.MaxName), q)))
	puts(t, "MaxNodes met", dir(files(api.MaxNodes-2)...), "/z", q, dir(append(files(api.MaxNodes-2), kid("z", q))...))
	puts(t, "MaxNodes met, and one in another's place", dir(append(files(api.MaxNodes-2), kid("z", link("z")))...), "/z", q, dir(append(files(api.MaxNodes-2), kid("z", q))...))
	puts(t, "MaxNodes met, and all go", dir(files(api.MaxNodes-1)...), "/", dir(files(api.MaxNodes-1)...), dir(files(api.MaxNodes-1)...))
	puts(t, "what goes does not count", dir(kid("a", dir(files(api.MaxNodes-2)...))), "/a", dir(files(api.MaxNodes-2)...), dir(kid("a", dir(files(api.MaxNodes-2)...))))
	putFails(t, "MaxDeep past", under(api.MaxDeep, dir()), down(api.MaxDeep+1), q, api.ErrName)
	putFails(t, "MaxDeep past by a kid", under(api.MaxDeep-1, dir()), down(api.MaxDeep), dir(kid("d", q)), api.ErrDeep)
	putFails(t, "MaxName past", dir(), last+"x", q, api.ErrName)
	putFails(t, "MaxNodes past", dir(files(api.MaxNodes-1)...), "/z", q, api.ErrFull)
	putFails(t, "MaxNodes past by kids", dir(files(api.MaxNodes-2)...), "/z", dir(kid("a", q)), api.ErrFull)
	putFails(t, "MaxNodes past in the place of one", dir(files(api.MaxNodes-1)...), "/f000", dir(kid("a", q)), api.ErrFull)
}

func TestPutNoDir(t *testing.T) {
	for _, s := range []string{
		"/z/a", "/z/a/b", "/b/z/a", "/0/a", // no such dir
		"/a/b", "/a/a/a", "/b/a/a", // behind a file
		"/to/a", "/to/z", "/to/b/a", "/-/a", "/b/b/b/a", // behind a link
	} {
		putFails(t, "no dir", sample(), s, file("q"), api.ErrNone)
		putFails(t, "no dir, and a node that is not well", sample(), s, api.Node{}, api.ErrNone)
	}
	putFails(t, "a file at the top", file(""), "/a", file("q"), api.ErrNone)
	putFails(t, "a link at the top", link("a"), "/a", file("q"), api.ErrNone)
}

func TestPutNotWell(t *testing.T) {
	for _, c := range unwells() {
		for _, s := range []string{"/", "/zz", "/a", "/b", "/b/z"} {
			putFails(t, c.about, sample(), s, c.n, c.want)
		}
	}
	putFails(t, "a dir in itself", sample(), "/a", endless(), api.ErrDeep)
	wide := file("x")
	for range 60 { // 2 to the 60 nodes: a copy of it would not end
		wide = dir(kid("a", wide), kid("b", wide))
	}
	putFails(t, "deep and wide", sample(), "/a", wide, api.ErrDeep)
	putFails(t, "deep and wide, at the top", sample(), "/", wide, api.ErrDeep)
}

// Where several are so.
func TestPutFirstError(t *testing.T) {
	for _, s := range noPaths() {
		putFails(t, "no path", sample(), s, file("q"), api.ErrName)
		putFails(t, "no path, and a node that is not well", sample(), s, link(""), api.ErrName)
	}
	for _, c := range unwells() {
		for _, s := range []string{"/", "/a", "/zz/a", "", "A"} {
			putFails(t, c.about, c.n, s, file("q"), c.want)
			putFails(t, c.about, c.n, s, api.Node{Kind: "dir", Data: "x", Exec: true}, c.want)
		}
	}
	full := dir(files(api.MaxNodes - 1)...)
	putFails(t, "what is ahead of one too many", full, "/a", link(""), api.ErrBound)
	putFails(t, "one too many ahead of what it is", full, "/z", link(""), api.ErrFull)
	putFails(t, "too deep ahead of what it is", under(api.MaxDeep-1, dir()), down(api.MaxDeep), dir(kid("a", link(""))), api.ErrDeep)
	putFails(t, "a dir's names ahead of too deep", under(api.MaxDeep-1, dir()), down(api.MaxDeep), dir(kid("A", file(""))), api.ErrName)
}

func TestPutOnlyReads(t *testing.T) {
	for _, s := range append(places(), "/0", "/zz", "/b/bb", "/c/b/a") {
		n, x := sample(), dir(kid("a", dir(kid("b", file("q")))))
		y, err := path.Put(n, s, x)
		if err != nil {
			t.Fatal(s, err)
		}
		want := tree.Copy(y)
		spoil(y)
		if !tree.Same(n, sample()) || !tree.Same(x, dir(kid("a", dir(kid("b", file("q")))))) {
			t.Error(s, "what is written into an answer shows in what was handed over")
		}
		y, _ = path.Put(n, s, x)
		spoil(n)
		spoil(x)
		if !tree.Same(y, want) {
			t.Error(s, "what is written later shows in an answer")
		}
	}
}

// What lies behind a list's length is neither read nor written.
func TestPutEndsAtLength(t *testing.T) {
	list := append(files(2), kid("z", link("z")))
	n := api.Node{Kind: "dir", Kids: list[:2]}
	puts(t, "behind a length", n, "/z", file("q"), dir(append(files(2), kid("z", file("q")))...))
	puts(t, "ahead of all", n, "/a", file("q"), dir(append([]api.Kid{kid("a", file("q"))}, files(2)...)...))
	if list[0].Name != "f000" || list[1].Name != "f001" || list[2].Name != "z" || !tree.Same(list[2].Node, link("z")) {
		t.Error("written behind a list's length:", list)
	}
}
