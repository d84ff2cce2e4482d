package tree_test

import (
	"fmt"
	"reflect"
	"slices"
	"testing"

	"stillroom/api"
	"stillroom/tree"
)

func TestCountSizeFiles(t *testing.T) {
	for i, c := range []struct {
		n           api.Node
		count, size int
		files       []string
	}{
		{dir(), 1, 0, nil},
		{file(""), 1, 0, []string{"/"}},
		{runs("abc"), 1, 3, []string{"/"}},
		{link("abc"), 1, 0, nil},
		{file("é"), 1, 2, []string{"/"}},
		{dir(kid("a", file("xy"))), 2, 2, []string{"/a"}},
		{dir(kid("a", dir()), kid("b", link("/a"))), 3, 0, nil},
		{dir(kid("a", dir(kid("b", file("1")))), kid("a.b", file("22"))), 4, 3, []string{"/a/b", "/a.b"}},
		{dir(kid("a", file("same")), kid("b", file("same"))), 3, 8, []string{"/a", "/b"}},
		{sample(), 14, 15, []string{"/a", "/b/a", "/b/b/a", "/b/d", "/b.c", "/c/b/a"}},
		{under(api.MaxDeep, file("x")), api.MaxDeep + 1, 1, []string{"/d/d/d/d/d/d/d/d"}},
		{dir(kid("a", file(bytes(api.MaxData))), kid("b", runs(bytes(api.MaxData)))), 3, 2 * api.MaxData, []string{"/a", "/b"}},
	} {
		if n := tree.Count(c.n); n != c.count {
			t.Errorf("%d: count %d, want %d", i, n, c.count)
		}
		if n := tree.Size(c.n); n != c.size {
			t.Errorf("%d: size %d, want %d", i, n, c.size)
		}
		if l := tree.Files(c.n); !slices.Equal(l, c.files) {
			t.Errorf("%d: files %q, want %q", i, l, c.files)
		}
	}
}

func TestTellsAtMaxNodes(t *testing.T) {
	n := dir(files(api.MaxNodes - 1)...)
	l := tree.Files(n)
	if tree.Count(n) != api.MaxNodes || tree.Size(n) != api.MaxNodes-1 || len(l) != api.MaxNodes-1 {
		t.Fatal(tree.Count(n), tree.Size(n), len(l))
	}
	for i, s := range l {
		if want := fmt.Sprintf("/f%03d", i); s != want {
			t.Error(s, want)
		}
	}
}

func TestSameTellsApart(t *testing.T) {
	deep := func(n api.Node) api.Node { return dir(kid("a", file("")), kid("b", under(3, n))) }
	l := []api.Node{
		{}, {Kind: "what"}, {Kind: "File"}, {Data: "x"}, {Exec: true}, {Kids: files(1)},
		dir(), file(""), runs(""), link(""), file("a"), file("b"), file("ab"), link("a"), link("A"), runs("a"),
		{Kind: "file", Kids: files(1)}, {Kind: "link", Kids: files(1)}, {Kind: "link", Exec: true}, {Kind: "dir", Exec: true}, {Kind: "dir", Data: "x"},
		dir(files(1)...), dir(files(2)...), dir(files(api.MaxNodes + 5)...), dir(files(api.MaxNodes + 6)...),
		dir(kid("a", file(""))), dir(kid("b", file(""))), dir(kid("", file(""))), dir(kid("a", runs(""))), dir(kid("a", link(""))), dir(kid("a", dir())), dir(kid("a", file("x"))),
		dir(kid("a", file("1")), kid("b", file("2"))), dir(kid("b", file("2")), kid("a", file("1"))), dir(kid("a", file("2")), kid("b", file("1"))), dir(kid("a", file("1")), kid("a", file("2"))),
		deep(file("")), deep(file("x")), deep(runs("")), deep(link("")), deep(dir()), deep(api.Node{}),
		under(90, file("x")), under(91, file("x")), under(90, file("y")), sample(),
	}
	for i, a := range l {
		for k, b := range l {
			if tree.Same(a, copyOf(b)) != (i == k) {
				t.Errorf("same of %d and %d: want %v", i, k, i == k)
			}
		}
	}
}

func TestNilAndEmptyKidsAreOne(t *testing.T) {
	for _, kind := range []string{"file", "dir", "link", ""} {
		a, b := api.Node{Kind: kind, Data: "x"}, api.Node{Kind: kind, Data: "x", Kids: []api.Kid{}}
		if !tree.Same(a, b) || !tree.Same(b, a) || !tree.Same(dir(kid("a", a)), dir(kid("a", b))) {
			t.Errorf("%q: nil and empty kids are told apart", kind)
		}
	}
}

func TestNothingBehindALength(t *testing.T) {
	hidden := []api.Kid{kid("a", file("x")), kid("A", api.Node{})}
	n, want := dir(hidden[:1]...), dir(kid("a", file("x")))
	if tree.Check(n) != nil || !tree.Same(n, want) || tree.Count(n) != 2 || tree.Size(n) != 1 || len(tree.Files(n)) != 1 {
		t.Error("what lies behind the length is read")
	}
	f := api.Node{Kind: "file", Kids: hidden[:0]}
	if tree.Check(f) != nil || !tree.Same(f, file("")) {
		t.Error("what lies behind an empty list is read")
	}
	if !reflect.DeepEqual(hidden[1], kid("A", api.Node{})) {
		t.Error("what lies behind the length is written")
	}
}

func TestOnlyRead(t *testing.T) {
	for i, n := range []api.Node{sample(), dir(kid("b", file("")), kid("a", file(""))), {Kind: "what", Kids: files(3)}} {
		was := copyOf(n)
		_ = tree.Check(n)
		tree.Same(n, n)
		tree.Count(n)
		tree.Size(n)
		tree.Files(n)
		if !reflect.DeepEqual(n, was) {
			t.Error(i, "what is handed over is changed")
		}
	}
}

func TestFilesAreNewMemory(t *testing.T) {
	n := sample()
	a, b := tree.Files(n), tree.Files(n)
	a[0] = "other"
	_ = append(a[:1], "other")
	if want := []string{"/a", "/b/a", "/b/b/a", "/b/d", "/b.c", "/c/b/a"}; !slices.Equal(b, want) || !slices.Equal(tree.Files(n), want) {
		t.Error("two answers share memory")
	}
}
