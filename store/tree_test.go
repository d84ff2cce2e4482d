package store_test

import (
	"testing"

	"stillroom/api"
	"stillroom/store"
	"stillroom/tree"
)

func treeIs(t *testing.T, s *store.Store, name string, want api.Node) {
	t.Helper()
	if n, err := s.Tree(name); err != nil || !tree.Same(n, want) {
		t.Errorf("Tree(%q): %v, %v, want %v", name, n, err, want)
	}
}

func noTree(t *testing.T, s *store.Store, want error, names ...string) {
	t.Helper()
	for _, name := range names {
		if n, err := s.Tree(name); err != want || !tree.Same(n, api.Node{}) {
			t.Errorf("Tree(%q): %v, %v, want %v", name, n, err, want)
		}
	}
}

func TestTree(t *testing.T) {
	a, b := dir(kid("f", file("hi")), kid("l", link("f"))), runs(long(40))
	s := newStore(t, 9, add("a", a), add("b", b), "add c d0:", "add d l1:x", "root a", "root b")
	for name, n := range map[string]api.Node{"a": a, "b": b, "c": dir(), "d": link("x")} {
		treeIs(t, s, name, n)
	}
	noTree(t, s, api.ErrNone, "", "e", "A", "aa", "/", "0")
	does(t, s, "gc")
	noTree(t, s, api.ErrNone, "c", "d")
	treeIs(t, s, "b", b)
	treeIs(t, open(t, newTape(t, s.Tape().Bytes()), 9), "a", a)
	noTree(t, nil, api.ErrNone, "", "a")
	noTree(t, &store.Store{}, api.ErrNone, "", "a")
}

// What rotted is that pack's alone, and those' that share it: Packs tells none.
func TestTreeOfWhatRotted(t *testing.T) {
	s := newStore(t, 9, "add a f2:hi", "add b f2:ho", "add c f2:hi", "opt", "rot 0 0")
	noTree(t, s, api.ErrSum, "a", "c")
	noTree(t, s, api.ErrNone, "d")
	treeIs(t, s, "b", file("ho"))
	if l, err := s.Packs(); len(l) != 0 || err != api.ErrSum {
		t.Errorf("Packs: %v, %v", l, err)
	}
	does(t, s, "mend 0 hi")
	treeIs(t, s, "a", file("hi"))
	treeIs(t, s, "c", file("hi"))
}

// Nobody sees what is written into an answer.
func TestTreeIsNewMemory(t *testing.T) {
	want := dir(kid("a", dir(kid("b", file("x")))))
	s := newStore(t, 9, add("a", want))
	n, err := s.Tree("a")
	if err != nil {
		t.Fatal(err)
	}
	n.Kids[0].Node.Kids[0] = kid("z", link("q"))
	n.Kids[0].Name = "y"
	treeIs(t, s, "a", want)
}
