package tree_test

import (
	"testing"

	"stillroom/api"
	"stillroom/tree"
)

func TestCopyIsTheSame(t *testing.T) {
	l := append(wells(), api.Node{}, api.Node{Kind: "what", Data: "x", Exec: true, Kids: files(2)}, under(90, link("")), dir(kid("b", dir()), kid("", file(""))))
	for i, n := range l {
		if !tree.Same(tree.Copy(n), n) {
			t.Error(i, "a copy is another one")
		}
	}
}

func TestCopyHasListsOfItsOwn(t *testing.T) {
	n := sample()
	c := tree.Copy(n)
	spoil(c)
	if !tree.Same(n, sample()) {
		t.Error("what is written into a copy shows")
	}
	c = tree.Copy(n)
	spoil(n)
	if !tree.Same(c, sample()) {
		t.Error("what is written later shows in a copy")
	}
}

// What lies behind a list's length is neither read nor written.
func TestCopyEndsAtLength(t *testing.T) {
	list := append(files(2), kid("z", link("z")))
	c := tree.Copy(api.Node{Kind: "dir", Kids: list[:2]})
	c.Kids = append(c.Kids, kid("y", file("")))
	if len(c.Kids) != 3 || list[2].Name != "z" || !tree.Same(list[2].Node, link("z")) {
		t.Error("behind a list's length:", list[2])
	}
	// Two lists that share one memory in what is copied share none in the copy.
	twice := tree.Copy(dir(kid("a", dir(list...)), kid("b", dir(list...))))
	twice.Kids[0].Node.Kids[0].Name = "y"
	if twice.Kids[1].Node.Kids[0].Name != "f000" {
		t.Error("two lists of one copy share memory")
	}
}

// spoil writes into every list of a node.
func spoil(n api.Node) {
	for i := range n.Kids {
		spoil(n.Kids[i].Node)
		n.Kids[i] = kid("spoilt", link("spoilt"))
	}
}
