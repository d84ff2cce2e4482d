package tree_test

import (
	"strings"
	"testing"

	"stillroom/api"
	"stillroom/tree"
)

// wells are trees that are well, many of them drawn.
func wells() []api.Node {
	l := []api.Node{dir(), file(""), runs("x"), link("a"), sample(), under(api.MaxDeep, file("x")), dir(files(api.MaxNodes - 1)...)}
	for i := range 300 {
		d := draw(i)
		l = append(l, dir(kid("a", d.node(3)), kid("b", d.node(2))))
	}
	return l
}

func TestAlwaysSameAsItself(t *testing.T) {
	for i, n := range wells() {
		if !tree.Same(n, n) || !tree.Same(n, copyOf(n)) {
			t.Error(i, "not the same as itself")
		}
		if tree.Same(n, dir(kid("a", n))) || tree.Same(dir(kid("a", n)), n) {
			t.Error(i, "the same as a dir with it")
		}
	}
	for i, n := range []api.Node{{}, {Kind: "what", Kids: files(2)}, link(""), dir(kid("", api.Node{})), under(90, dir())} {
		if !tree.Same(n, n) || !tree.Same(n, copyOf(n)) {
			t.Error(i, "not well, and not the same as itself")
		}
	}
}

func TestAlwaysKidsTogether(t *testing.T) {
	for i, n := range wells() {
		if err := tree.Check(n); err != nil {
			t.Fatal(i, err)
		}
		together(t, n)
	}
}

// together holds what is told of a node against what is told of its kids, all the way down.
func together(t *testing.T, n api.Node) {
	t.Helper()
	count, size := 1, 0
	var paths []string
	if n.Kind == "file" {
		size, paths = len(n.Data), []string{"/"}
	}
	for _, k := range n.Kids {
		together(t, k.Node)
		count += tree.Count(k.Node)
		size += tree.Size(k.Node)
		for _, s := range tree.Files(k.Node) {
			paths = append(paths, "/"+k.Name+strings.TrimSuffix(s, "/"))
		}
	}
	if tree.Count(n) != count || tree.Size(n) != size {
		t.Errorf("count %d, size %d; itself and its kids %d, %d", tree.Count(n), tree.Size(n), count, size)
	}
	if got, want := strings.Join(tree.Files(n), " "), strings.Join(paths, " "); got != want {
		t.Errorf("files %s; its kids' %s", got, want)
	}
}
