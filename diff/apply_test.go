package diff_test

import (
	"slices"
	"testing"

	"stillroom/api"
	"stillroom/diff"
	"stillroom/tree"
)

func applies(t *testing.T, about string, a api.Node, l []api.Change, want api.Node) {
	t.Helper()
	if n, err := diff.Apply(a, l); err != nil || !tree.Same(n, want) {
		t.Errorf("%s: %v, %v, want %v", about, n, err, want)
	}
}

// applyFails wants a fault with its place and the very error in it.
func applyFails(t *testing.T, about string, a api.Node, l []api.Change, at int, want error) {
	t.Helper()
	n, err := diff.Apply(a, l)
	f, ok := err.(*api.Fault)
	if !ok || f.At != at || f.Err != want || !tree.Same(n, api.Node{}) {
		t.Errorf("%s: %v, %#v, want %v at %d", about, n, err, want, at)
	}
}

// failsAnywhere tries a change that fails with others ahead and behind it, so
// that its place is not always 0.
func failsAnywhere(t *testing.T, about string, a api.Node, c api.Change, want error) {
	t.Helper()
	nothing := edit("/", a)
	applyFails(t, about, a, list(c), 0, want)
	applyFails(t, about, a, list(nothing, nothing, nothing, c), 3, want)
	applyFails(t, about, a, list(nothing, c, api.Change{}, nothing), 1, want)
}

func TestApply(t *testing.T) {
	a, b, c, q := kid("a", file("1")), kid("b", runs("2")), kid("c", link("3")), file("q")
	for _, w := range []struct {
		about string
		a     api.Node
		l     []api.Change
		want  api.Node
	}{
		{"nothing", sample(), nil, sample()},
		{"an empty list", sample(), list(), sample()},
		{"nothing, of a file", file("x"), nil, file("x")},
		{"add ahead of all", dir(a, c), list(add("/0", q)), dir(kid("0", q), a, c)},
		{"add between", dir(a, c), list(add("/b", q)), dir(a, kid("b", q), c)},
		{"add behind all", dir(a, c), list(add("/d", q)), dir(a, c, kid("d", q))},
		{"add a dir", dir(a), list(add("/d", dir(b, c))), dir(a, kid("d", dir(b, c)))},
		{"add deeper", dir(kid("d", dir(a))), list(add("/d/b", q)), dir(kid("d", dir(a, kid("b", q))))},
		{"edit", dir(a, b, c), list(edit("/b", q)), dir(a, kid("b", q), c)},
		{"edit into itself", dir(a, b), list(edit("/b", runs("2"))), dir(a, b)},
		{"edit a file into a dir", dir(a, b), list(edit("/a", dir(c))), dir(kid("a", dir(c)), b)},
		{"edit a dir into a file", dir(kid("a", dir(b, c)), b), list(edit("/a", q)), dir(kid("a", q), b)},
		{"edit a dir into another one: no kid of it stays", dir(kid("a", dir(b, c))), list(edit("/a", dir(a))), dir(kid("a", dir(a)))},
		{"edit a link, not where it goes", dir(a, kid("b", link("a"))), list(edit("/b", q)), dir(a, kid("b", q))},
		{"edit the top", dir(a, b), list(edit("/", q)), q},
		{"edit the top of a file", q, list(edit("/", dir(a))), dir(a)},
		{"drop", dir(a, b, c), list(drop("/b")), dir(a, c)},
		{"drop a dir", dir(a, kid("d", dir(b, c))), list(drop("/d")), dir(a)},
		{"drop deeper", dir(a, kid("d", dir(b, c))), list(drop("/d/b")), dir(a, kid("d", dir(c)))},
		{"drop with an empty list of kids", dir(a, b), list(api.Change{Kind: "drop", Path: "/a", Node: api.Node{Kids: []api.Kid{}}}), dir(b)},
		{"one upon the other", dir(), list(add("/d", dir()), add("/d/a", q), edit("/d/a", dir()), add("/d/a/b", q), drop("/d/a/b"), add("/d/a/c", q)), dir(kid("d", dir(kid("a", dir(kid("c", q))))))},
		{"dropped, and added again", dir(a, b), list(drop("/a"), add("/a", q)), dir(kid("a", q), b)},
		{"names need not rise", dir(b), list(add("/c", q), add("/a", q), drop("/b")), dir(kid("a", q), kid("c", q))},
		{"all kinds, at more than one depth", sample(), between(), other()},
	} {
		applies(t, w.about, w.a, w.l, w.want)
	}
}

func TestApplyEdges(t *testing.T) {
	q, full := file("q"), dir(files(api.MaxNodes-1)...)
	applies(t, "MaxDeep met", under(api.MaxDeep-1, dir()), list(add(down(api.MaxDeep), q)), under(api.MaxDeep, q))
	applies(t, "MaxNodes met", dir(files(api.MaxNodes-2)...), list(add("/f198", file("x"))), full)
	applies(t, "MaxNodes met, and one in another's place", full, list(edit("/f198", q)), dir(append(files(api.MaxNodes-2), kid("f198", q))...))
	applies(t, "MaxNodes met, and room made", full, list(drop("/f198"), add("/z", q)), dir(append(files(api.MaxNodes-2), kid("z", q))...))
	applyFails(t, "MaxDeep past", under(api.MaxDeep-1, dir()), list(add(down(api.MaxDeep), dir(kid("a", q)))), 0, api.ErrDeep)
	applyFails(t, "MaxNodes past by an add", full, list(add("/z", q)), 0, api.ErrFull)
	applyFails(t, "MaxNodes past by an edit", full, list(edit("/f000", dir(kid("a", q)))), 0, api.ErrFull)
	applyFails(t, "MaxNodes past by the second", dir(files(api.MaxNodes-2)...), list(add("/y", q), add("/z", q), drop("/y")), 1, api.ErrFull)
}

// Each error of a change, ahead of all that are so too.
func TestApplyErrors(t *testing.T) {
	bad := api.Node{Kind: "what", Data: "x"}
	for _, kind := range []string{"", "Add", "add ", "put", "drop\n", "dir"} {
		failsAnywhere(t, "a kind that is none", sample(), api.Change{Kind: kind, Path: "/zz", Node: file("")}, api.ErrKind)
		failsAnywhere(t, "kind ahead of all", sample(), api.Change{Kind: kind, Path: "A", Node: bad}, api.ErrKind)
	}
	for _, x := range []api.Node{file(""), dir(), {Data: "x"}, {Exec: true}, {Kids: files(1)}, endless(), {Kids: endless().Kids}} {
		for _, s := range []string{"/a", "/zz", "/", "", "/a/b"} {
			failsAnywhere(t, "a drop's node", sample(), api.Change{Kind: "drop", Path: s, Node: x}, api.ErrShape)
		}
	}
	for _, s := range []string{"/", "/a", "/b", "/b/b/b", "/to"} {
		failsAnywhere(t, "it is there", sample(), add(s, file("")), api.ErrExist)
		failsAnywhere(t, "it is there, alike", dir(kid("a", dir())), add("/a", dir()), api.ErrExist)
		for _, c := range unwells() {
			failsAnywhere(t, "there ahead of "+c.about, sample(), add(s, c.n), api.ErrExist)
		}
	}
	for _, s := range noPaths() {
		failsAnywhere(t, "no path to add", sample(), add(s, bad), api.ErrName)
		failsAnywhere(t, "no path to edit", sample(), edit(s, bad), api.ErrName)
		failsAnywhere(t, "no path to drop", sample(), drop(s), api.ErrName)
	}
	for _, s := range []string{"/z/a", "/a/b", "/to/z", "/to/b", "/b/z/a"} {
		failsAnywhere(t, "no dir to add to", sample(), add(s, bad), api.ErrNone)
	}
	for _, s := range []string{"/z", "/a/b", "/to/b", "/b/z", "/z/a"} {
		failsAnywhere(t, "nothing to edit", sample(), edit(s, bad), api.ErrNone)
		failsAnywhere(t, "nothing to drop", sample(), drop(s), api.ErrNone)
	}
	failsAnywhere(t, "the top dropped", sample(), drop("/"), api.ErrShape)
	failsAnywhere(t, "a file's top dropped", file(""), drop("/"), api.ErrShape)
	for _, c := range unwells() {
		failsAnywhere(t, "add: "+c.about, sample(), add("/zz", c.n), c.want)
		failsAnywhere(t, "add deeper: "+c.about, sample(), add("/b/z", c.n), c.want)
		failsAnywhere(t, "edit: "+c.about, sample(), edit("/a", c.n), c.want)
		failsAnywhere(t, "edit the top: "+c.about, sample(), edit("/", c.n), c.want)
	}
}

// A change is held against what those ahead of it made, and the first that is
// wrong is told, whatever its error is.
func TestApplyFirstError(t *testing.T) {
	q := file("q")
	for _, w := range []struct {
		about string
		l     []api.Change
		at    int
		want  error
	}{
		{"added twice", list(add("/q", q), add("/q", q)), 1, api.ErrExist},
		{"dropped twice", list(drop("/a"), drop("/a")), 1, api.ErrNone},
		{"edited when it is gone", list(drop("/b"), edit("/b/a", q)), 1, api.ErrNone},
		{"added to what is no dir any more", list(edit("/b", q), add("/b/z", q)), 1, api.ErrNone},
		{"behind another top", list(edit("/", q), drop("/a")), 1, api.ErrNone},
		{"none ahead of kind", list(drop("/z"), api.Change{}), 0, api.ErrNone},
		{"exist ahead of shape", list(add("/a", q), api.Change{Kind: "drop", Path: "/a", Node: q}), 0, api.ErrExist},
		{"the last one", list(drop("/a"), drop("/b"), drop("/to"), drop("/b.c"), drop("/b.c")), 4, api.ErrNone},
	} {
		applyFails(t, w.about, sample(), w.l, w.at, w.want)
	}
}

// What is wrong with the tree itself has no place.
func TestApplyTreeErrors(t *testing.T) {
	for _, c := range unwells() {
		for _, l := range [][]api.Change{nil, list(edit("/", file(""))), list(api.Change{}), list(drop("/")), list(add("A", link("")))} {
			if n, err := diff.Apply(c.n, l); err != c.want || !tree.Same(n, api.Node{}) {
				t.Errorf("%s: %v, %v, want %v", c.about, n, err, c.want)
			}
		}
	}
}

func TestApplyOnlyReads(t *testing.T) {
	for _, l := range [][]api.Change{nil, between(), list(edit("/", other())), list(add("/z", other()), drop("/a"))} {
		a, kept := sample(), slices.Clone(l)
		for i := range kept {
			kept[i].Node = tree.Copy(l[i].Node)
		}
		n, err := diff.Apply(a, l)
		if err != nil {
			t.Fatal(err)
		}
		want := tree.Copy(n)
		spoil(n)
		if !tree.Same(a, sample()) || !slices.EqualFunc(l, kept, sameChange) {
			t.Error("what was handed over is changed, or shows what is written into an answer")
		}
		n, _ = diff.Apply(a, l)
		spoil(a)
		for i := range l {
			spoil(l[i].Node)
			l[i] = api.Change{}
		}
		if !tree.Same(n, want) {
			t.Error("what is written later shows in an answer")
		}
	}
}

// A fault in the midst leaves no trace of the changes ahead of it.
func TestApplyFaultChangesNothing(t *testing.T) {
	a, l := sample(), append(between(), drop("/to"))
	applyFails(t, "behind all changes", a, l, len(l)-1, api.ErrNone)
	if !tree.Same(a, sample()) || !slices.EqualFunc(l, append(between(), drop("/to")), sameChange) {
		t.Error("what was handed over is changed:", a, l)
	}
}

// One node in two places of one list: the two are two in the answer.
func TestApplySharesNothing(t *testing.T) {
	one := dir(kid("a", file("x")))
	n, err := diff.Apply(dir(), list(add("/a", one), add("/b", one)))
	if err != nil {
		t.Fatal(err)
	}
	spoil(n.Kids[0].Node)
	if !tree.Same(n.Kids[1].Node, dir(kid("a", file("x")))) {
		t.Error("two nodes of one answer share memory:", n)
	}
}

// What lies behind a list's length is neither read nor written.
func TestApplyEndsAtLength(t *testing.T) {
	kids, l := append(files(2), kid("z", link("z"))), list(drop("/f000"), add("/y", file("")), api.Change{})
	short := api.Node{Kind: "dir", Kids: kids[:2]}
	applies(t, "behind a length", short, l[:2], dir(kid("f001", file("x")), kid("y", file(""))))
	if kids[0].Name != "f000" || kids[1].Name != "f001" || kids[2].Name != "z" || !sameChange(l[2], api.Change{}) {
		t.Error("written:", kids, l)
	}
}
