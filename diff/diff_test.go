package diff_test

import (
	"slices"
	"testing"

	"stillroom/api"
	"stillroom/diff"
	"stillroom/tree"
)

// sameChange holds all of two changes against each other.
func sameChange(c, d api.Change) bool {
	return c.Kind == d.Kind && c.Path == d.Path && tree.Same(c.Node, d.Node)
}

func differs(t *testing.T, about string, a, b api.Node, want []api.Change) {
	t.Helper()
	l, err := diff.Diff(a, b)
	if err != nil || !slices.EqualFunc(l, want, sameChange) {
		t.Errorf("%s: %v, %v, want %v", about, l, err, want)
	}
}

// diffFails wants the very error: no chapter tells a place here, so it is bare.
func diffFails(t *testing.T, about string, a, b api.Node, want error) {
	t.Helper()
	if l, err := diff.Diff(a, b); err != want || len(l) > 0 {
		t.Errorf("%s: %v, %v, want %v", about, l, err, want)
	}
}

func TestDiffAlike(t *testing.T) {
	for about, n := range map[string]api.Node{
		"an empty dir": dir(), "a file": file("x"), "an empty file": file(""), "a file that runs": runs("x"), "a link": link("x"),
		"a tree": sample(), "MaxDeep met": under(api.MaxDeep, dir()), "MaxNodes met": dir(files(api.MaxNodes - 1)...),
	} {
		differs(t, about, n, n, nil)
		differs(t, about, n, tree.Copy(n), nil)
	}
	differs(t, "a nil list and an empty one", api.Node{Kind: "dir"}, api.Node{Kind: "dir", Kids: []api.Kid{}}, nil)
	differs(t, "a file's lists", api.Node{Kind: "file", Kids: []api.Kid{}}, file(""), nil)
}

func TestDiffTop(t *testing.T) {
	tops := []api.Node{file(""), file("x"), file("y"), runs("x"), link("x"), link("y"), sample()}
	for i, a := range tops {
		for j, b := range tops {
			if i != j {
				differs(t, "another top", a, b, list(edit("/", b)))
			}
		}
	}
	differs(t, "an empty dir becomes an empty file", dir(), file(""), list(edit("/", file(""))))
	differs(t, "an empty file becomes an empty dir", file(""), dir(), list(edit("/", dir())))
}

func TestDiffDirs(t *testing.T) {
	a, b, c := kid("a", file("1")), kid("b", runs("2")), kid("c", link("3"))
	deep := dir(kid("x", dir(a, b)), kid("y", file("")))
	for _, w := range []struct {
		about string
		a, b  api.Node
		want  []api.Change
	}{
		{"all new", dir(), dir(a, b, c), list(add("/a", file("1")), add("/b", runs("2")), add("/c", link("3")))},
		{"all gone", dir(a, b, c), dir(), list(drop("/a"), drop("/b"), drop("/c"))},
		{"the first new", dir(b, c), dir(a, b, c), list(add("/a", file("1")))},
		{"the middle one new", dir(a, c), dir(a, b, c), list(add("/b", runs("2")))},
		{"the last new", dir(a, b), dir(a, b, c), list(add("/c", link("3")))},
		{"the first gone", dir(a, b, c), dir(b, c), list(drop("/a"))},
		{"the middle one gone", dir(a, b, c), dir(a, c), list(drop("/b"))},
		{"the last gone", dir(a, b, c), dir(a, b), list(drop("/c"))},
		{"one by one", dir(a, c), dir(b), list(drop("/a"), add("/b", runs("2")), drop("/c"))},
		{"one by one, the other way", dir(b), dir(a, c), list(add("/a", file("1")), drop("/b"), add("/c", link("3")))},
		{"other bytes", dir(a, b), dir(kid("a", file("2")), b), list(edit("/a", file("2")))},
		{"it runs", dir(a, b), dir(kid("a", runs("1")), b), list(edit("/a", runs("1")))},
		{"it runs no more", dir(a, b), dir(a, kid("b", file("2"))), list(edit("/b", file("2")))},
		{"a link goes elsewhere", dir(c), dir(kid("c", link("4"))), list(edit("/c", link("4")))},
		{"a link becomes a file", dir(c), dir(kid("c", file("3"))), list(edit("/c", file("3")))},
		{"a dir becomes a file", deep, dir(kid("x", file("")), kid("y", file(""))), list(edit("/x", file("")))},
		{"a file becomes a dir", deep, dir(kid("x", dir(a, b)), kid("y", dir(a, b))), list(edit("/y", dir(a, b)))},
		{"a dir becomes a link", deep, dir(kid("x", link("y")), kid("y", file(""))), list(edit("/x", link("y")))},
		{"a dir and a file change places", deep, dir(kid("x", file("")), kid("y", dir(a, b))), list(edit("/x", file("")), edit("/y", dir(a, b)))},
		{"a new dir is one change", dir(), deep, list(add("/x", dir(a, b)), add("/y", file("")))},
		{"a dir that goes is one change", deep, dir(kid("y", file(""))), list(drop("/x"))},
		{"a dir that is empty now", deep, dir(kid("x", dir()), kid("y", file(""))), list(drop("/x/a"), drop("/x/b"))},
		{"deeper", deep, dir(kid("x", dir(kid("a", file("q")), c)), kid("y", file(""))), list(edit("/x/a", file("q")), drop("/x/b"), add("/x/c", link("3")))},
		{"a name that is longer", dir(a), dir(kid("aa", file("1"))), list(drop("/a"), add("/aa", file("1")))},
		{"all kinds, at more than one depth", sample(), other(), between()},
		{"MaxDeep met", under(api.MaxDeep, file("x")), under(api.MaxDeep, file("y")), list(edit(down(api.MaxDeep), file("y")))},
		{"MaxDeep met by a new one", under(api.MaxDeep-1, dir()), under(api.MaxDeep, file("y")), list(add(down(api.MaxDeep), file("y")))},
	} {
		differs(t, w.about, w.a, w.b, w.want)
	}
}

// By names, dir by dir: not as the paths would rise as texts, where a dot and a
// dash stand ahead of a slash.
func TestDiffOrder(t *testing.T) {
	a := dir(kid("b", dir(kid("x", file("1")))), kid("b-", file("1")), kid("b.c", file("1")))
	b := dir(kid("b", dir(kid("x", file("2")), kid("y", dir()))), kid("b-", file("2")), kid("b.", file("2")), kid("b.c", file("2")))
	differs(t, "a dir's changes at its own place", a, b, list(
		edit("/b/x", file("2")), add("/b/y", dir()), edit("/b-", file("2")), add("/b.", file("2")), edit("/b.c", file("2"))))
	a = dir(kid("10", file("")), kid("9", file("")), kid("c", file("")))
	b = dir(kid("-", file("")), kid("100", file("")), kid("99", file("")), kid("a", file("")))
	differs(t, "by bytes, kinds mixed", a, b, list(
		add("/-", file("")), drop("/10"), add("/100", file("")), drop("/9"), add("/99", file("")), add("/a", file("")), drop("/c")))
}

func TestDiffErrors(t *testing.T) {
	for _, c := range unwells() {
		diffFails(t, c.about, c.n, sample(), c.want)
		diffFails(t, c.about, sample(), c.n, c.want)
		diffFails(t, c.about, c.n, c.n, c.want)
		for _, later := range unwells() {
			diffFails(t, c.about+" ahead of "+later.about, c.n, later.n, c.want)
		}
	}
}

func TestDiffOnlyReads(t *testing.T) {
	for _, b := range []api.Node{other(), file("x"), dir(), dir(kid("a", other()), kid("c", other()))} {
		a, want := sample(), tree.Copy(b)
		l, err := diff.Diff(a, b)
		if err != nil || !tree.Same(a, sample()) || !tree.Same(b, want) {
			t.Fatal("what was handed over is changed", err)
		}
		for _, c := range l {
			spoil(c.Node)
		}
		if !tree.Same(a, sample()) || !tree.Same(b, want) {
			t.Error("what is written into an answer shows in what was handed over")
		}
	}
	a, b := sample(), other()
	l, _ := diff.Diff(a, b)
	spoil(a)
	spoil(b)
	if !slices.EqualFunc(l, between(), sameChange) {
		t.Error("what is written later shows in an answer:", l)
	}
}

// Two changes with nodes that were one list when they were handed over.
func TestDiffSharesNothing(t *testing.T) {
	one := dir(kid("a", file("x")))
	l, err := diff.Diff(dir(), dir(kid("a", one), kid("b", one), kid("c", dir(kid("d", one)))))
	if err != nil || len(l) != 3 {
		t.Fatal(l, err)
	}
	spoil(l[0].Node)
	if !tree.Same(l[1].Node, dir(kid("a", file("x")))) || !tree.Same(l[2].Node, dir(kid("d", dir(kid("a", file("x")))))) {
		t.Error("two nodes of one answer share memory:", l)
	}
}

// What lies behind a list's length is neither read nor written.
func TestDiffEndsAtLength(t *testing.T) {
	kids := append(files(2), kid("z", link("z")))
	short := api.Node{Kind: "dir", Kids: kids[:2]}
	differs(t, "behind a length", short, dir(files(2)...), nil)
	differs(t, "behind a length", short, api.Node{Kind: "dir", Kids: kids}, list(add("/z", link("z"))))
	differs(t, "behind a length", api.Node{Kind: "dir", Kids: kids}, short, list(drop("/z")))
	if kids[2].Name != "z" || !tree.Same(kids[2].Node, link("z")) {
		t.Error("written behind a list's length:", kids)
	}
}
