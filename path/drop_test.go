package path_test

import (
	"testing"

	"stillroom/api"
	"stillroom/path"
	"stillroom/tree"
)

func dropFails(t *testing.T, about string, n api.Node, s string, want error) {
	t.Helper()
	if y, err := path.Drop(n, s); err != want || !tree.Same(y, api.Node{}) {
		t.Errorf("%s: drop %.40q: %v, want %v", about, s, err, want)
	}
}

func TestDrop(t *testing.T) {
	a, b, c := kid("a", file("1")), kid("b", runs("2")), kid("c", link("a"))
	for _, w := range []struct {
		about string
		n     api.Node
		s     string
		want  api.Node
	}{
		{"the first", dir(a, b, c), "/a", dir(b, c)},
		{"the middle one", dir(a, b, c), "/b", dir(a, c)},
		{"the last, a link and not where it goes", dir(a, b, c), "/c", dir(a, b)},
		{"the only one", dir(a), "/a", dir()},
		{"a dir with all that is in it", dir(a, kid("b", dir(a, b, kid("d", dir(c))))), "/b", dir(a)},
		{"deeper", dir(a, kid("b", dir(a, kid("b", dir(b, c))))), "/b/b/b", dir(a, kid("b", dir(a, kid("b", dir(c)))))},
		{"deeper, the only one", dir(a, kid("b", dir(c))), "/b/c", dir(a, kid("b", dir()))},
		{"MaxDeep met", under(api.MaxDeep, file("x")), down(api.MaxDeep), under(api.MaxDeep-1, dir())},
		{"MaxNodes met", dir(files(api.MaxNodes - 1)...), "/f198", dir(files(api.MaxNodes - 2)...)},
	} {
		if y, err := path.Drop(w.n, w.s); err != nil || !tree.Same(y, w.want) {
			t.Errorf("%s: %v, %v, want %v", w.about, y, err, w.want)
		}
	}
}

func TestDropTop(t *testing.T) {
	for about, n := range map[string]api.Node{"a dir": sample(), "an empty dir": dir(), "a file": file(""), "a link": link("a")} {
		dropFails(t, about, n, "/", api.ErrShape)
	}
}

func TestDropNone(t *testing.T) {
	for _, s := range []string{
		"/0", "/aa", "/z", "/b/z", "/b/b/c", "/z/a", "/z/z/z", "/b/c/a",
		"/a/b", "/a/a", "/b/a/z/z", "/to/a", "/to/b/a", "/-/a", "/b/b/b/a",
	} {
		dropFails(t, "not there", sample(), s, api.ErrNone)
	}
	for about, n := range map[string]api.Node{"a file": file("a"), "a link": link("a"), "an empty dir": dir()} {
		dropFails(t, about, n, "/a", api.ErrNone)
		dropFails(t, about, n, "/a/b", api.ErrNone)
	}
	dropFails(t, "MaxDeep met, and not there", under(api.MaxDeep-1, dir()), down(api.MaxDeep), api.ErrNone)
}

func TestDropFirstError(t *testing.T) {
	for _, s := range noPaths() {
		dropFails(t, "no path", sample(), s, api.ErrName)
	}
	for _, c := range unwells() {
		for _, s := range []string{"/", "/a", "/zz/a", "", "A", down(api.MaxDeep + 1)} {
			dropFails(t, c.about, c.n, s, c.want)
		}
	}
	dropFails(t, "a dir in itself", endless(), "/", api.ErrDeep)
}

func TestDropOnlyReads(t *testing.T) {
	for _, s := range places()[1:] {
		n := sample()
		y, err := path.Drop(n, s)
		if err != nil || !tree.Same(n, sample()) {
			t.Fatal(s, "what was handed over is changed", err)
		}
		want := tree.Copy(y)
		spoil(y)
		if !tree.Same(n, sample()) {
			t.Error(s, "what is written into an answer shows in what was handed over")
		}
		y, _ = path.Drop(n, s)
		spoil(n)
		if !tree.Same(y, want) {
			t.Error(s, "what is written later shows in an answer")
		}
	}
}

// What lies behind a list's length is neither read nor written.
func TestDropEndsAtLength(t *testing.T) {
	list := append(files(2), kid("z", link("z")))
	n := api.Node{Kind: "dir", Kids: list[:2]}
	dropFails(t, "behind a length", n, "/z", api.ErrNone)
	y, err := path.Drop(n, "/f000")
	if err != nil || !tree.Same(y, dir(files(2)[1:]...)) {
		t.Error(y, err)
	}
	if list[0].Name != "f000" || list[1].Name != "f001" || list[2].Name != "z" {
		t.Error("written:", list)
	}
}
