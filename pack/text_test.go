package pack_test

import (
	"strings"
	"testing"

	"stillroom/api"
	"stillroom/pack"
	"stillroom/tree"
)

type told struct {
	n api.Node
	s string
}

func texts() []told {
	n, s := sample()
	fit, fitText := fits(api.MaxText)
	l := []told{
		{file(""), "f0:"},
		{file("a"), "f1:a"},
		{file("xy"), "f2:xy"},
		{runs(""), "x0:"},
		{runs("d0:"), "x3:d0:"},
		{file("\x00\xff\n:é"), "f6:\x00\xff\n:é"},
		{file(bytes(9)), "f9:" + bytes(9)},
		{file(bytes(10)), "f10:" + bytes(10)},
		{file(bytes(api.MaxData)), "f2000:" + bytes(api.MaxData)},
		{runs(bytes(api.MaxData)), "x2000:" + bytes(api.MaxData)},
		{link("a"), "l1:a"},
		{link("!~"), "l2:!~"},
		{link(bytes(api.MaxLink)), "l40:" + bytes(api.MaxLink)},
		{dir(), "d0:"},
		{dir(kid("a", file("xy"))), "d1:1:af2:xy"},
		{dir(kid("a", dir()), kid("b", dir(kid("a", dir())))), "d2:1:ad0:1:bd1:1:ad0:"},
		{dir(kid(bytes(api.MaxName), file(""))), "d1:12:" + bytes(api.MaxName) + "f0:"},
		{n, s},
		{fit, fitText},
	}
	deep := file("x")
	for range api.MaxDeep {
		deep = dir(kid("d", deep))
	}
	return append(l, told{deep, dirs(api.MaxDeep) + "f1:x"})
}

func TestText(t *testing.T) {
	for _, c := range texts() {
		if got := pack.Text(c.n); got != c.s {
			t.Errorf("%.60q, want %.60q", got, c.s)
		}
	}
}

func TestTextOfManyNodes(t *testing.T) {
	n := dir()
	for i := range api.MaxNodes - 1 {
		n.Kids = append(n.Kids, kid("f"+string([]byte{'0' + byte(i/100), '0' + byte(i/10%10), '0' + byte(i%10)}), file("")))
	}
	want := "d199:" + kids(api.MaxNodes-1)
	if got := pack.Text(n); got != want {
		t.Errorf("MaxNodes met: %.60q", got)
	}
	n.Kids = append(n.Kids, kid("z", file("")))
	if got := pack.Text(n); got != "" {
		t.Errorf("MaxNodes past: %.60q", got)
	}
}

// A text has no bound of its own: of a tree that is well it is told, though Read refuses it.
func TestTextLongerThanIsRead(t *testing.T) {
	n, want := fits(api.MaxText + 1)
	if got := pack.Text(n); got != want || len(got) != api.MaxText+1 {
		t.Errorf("%d bytes", len(got))
	}
}

func TestTextOfEmptyLists(t *testing.T) {
	for _, c := range []told{
		{api.Node{Kind: "dir", Kids: []api.Kid{}}, "d0:"},
		{api.Node{Kind: "file", Data: "a", Kids: []api.Kid{}}, "f1:a"},
		{api.Node{Kind: "link", Data: "a", Kids: []api.Kid{}}, "l1:a"},
	} {
		if got := pack.Text(c.n); got != c.s {
			t.Errorf("%q, want %q", got, c.s)
		}
	}
}

func TestTextNotWell(t *testing.T) {
	deep := dir()
	for range api.MaxDeep + 1 {
		deep = dir(kid("d", deep))
	}
	wide := file("x")
	for range 18 { // no more, so that a text of it would show, and not keep the test
		wide = dir(kid("a", wide), kid("b", wide))
	}
	for about, n := range map[string]api.Node{
		"no kind":           {},
		"another kind":      {Kind: "what", Data: "a"},
		"a file with kids":  {Kind: "file", Kids: []api.Kid{kid("a", file(""))}},
		"a dir with data":   {Kind: "dir", Data: "a"},
		"a dir that runs":   {Kind: "dir", Exec: true},
		"a link that runs":  {Kind: "link", Data: "a", Exec: true},
		"a link of nothing": link(""),
		"a long link":       link(bytes(api.MaxLink + 1)),
		"a link's bytes":    link("a b"),
		"long data":         file(bytes(api.MaxData + 1)),
		"a name":            dir(kid("A", file(""))),
		"a long name":       dir(kid(bytes(api.MaxName+1), file(""))),
		"names that fall":   dir(kid("b", file("")), kid("a", file(""))),
		"a kid's":           dir(kid("a", file("")), kid("b", dir(kid("a", link(""))))),
		"too deep":          deep,
		"too deep and wide": wide,
	} {
		if got := pack.Text(n); got != "" {
			t.Errorf("%s: %q", about, got)
		}
	}
}

// What lies behind the length of a list of kids is neither told nor written, and a node is only read.
func TestTextOnlyReads(t *testing.T) {
	list := []api.Kid{kid("a", file("x")), kid("b", file("y")), kid("B", link(""))}
	n := api.Node{Kind: "dir", Kids: list[:1]}
	if got := pack.Text(n); got != "d1:1:af1:x" {
		t.Errorf("%q", got)
	}
	want := []api.Kid{kid("a", file("x")), kid("b", file("y")), kid("B", link(""))}
	for i, k := range list {
		if k.Name != want[i].Name || !tree.Same(k.Node, want[i].Node) {
			t.Error(i, "changed")
		}
	}
	before := pack.Text(n)
	list[0].Name = "z"
	if before != "d1:1:af1:x" || !strings.HasPrefix(pack.Text(n), "d1:1:z") {
		t.Error("a text hangs on what its tree became later")
	}
}
