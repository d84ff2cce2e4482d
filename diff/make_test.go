package diff_test

import (
	"fmt"
	"strings"

	"stillroom/api"
)

func file(data string) api.Node { return api.Node{Kind: "file", Data: data} }

func runs(data string) api.Node { return api.Node{Kind: "file", Data: data, Exec: true} }

func link(to string) api.Node { return api.Node{Kind: "link", Data: to} }

func dir(kids ...api.Kid) api.Node { return api.Node{Kind: "dir", Kids: kids} }

func kid(name string, n api.Node) api.Kid { return api.Kid{Name: name, Node: n} }

func add(s string, n api.Node) api.Change { return api.Change{Kind: "add", Path: s, Node: n} }

func edit(s string, n api.Node) api.Change { return api.Change{Kind: "edit", Path: s, Node: n} }

func drop(s string) api.Change { return api.Change{Kind: "drop", Path: s} }

func list(l ...api.Change) []api.Change { return l }

// down is the path of that many names.
func down(n int) string { return strings.Repeat("/d", n) }

// under lays a node that many dirs deep: down(dirs) is its path.
func under(dirs int, n api.Node) api.Node {
	for range dirs {
		n = dir(kid("d", n))
	}
	return n
}

// files are kids with names that rise.
func files(n int) []api.Kid {
	var kids []api.Kid
	for i := range n {
		kids = append(kids, kid(fmt.Sprintf("f%03d", i), file("x")))
	}
	return kids
}

// sample is well, and has each kind at more than one place. It is new memory
// each time, so that one may be held against another that was handed over.
func sample() api.Node {
	return dir(
		kid("a", file("xy")),
		kid("b", dir(
			kid("a", runs("z")),
			kid("b", dir(kid("a", file("")), kid("b", link("/a")))),
			kid("c", dir()))),
		kid("b.c", file("\x00\xff\n")),
		kid("to", link("b")))
}

// other is unlike the sample, by all kinds of changes at more than one depth.
func other() api.Node {
	return dir(
		kid("0", dir(kid("a", dir(kid("b", file("q")))))),
		kid("a", dir(kid("a", runs("a")))),
		kid("b", dir(
			kid("a", runs("zz")),
			kid("b", dir(kid("a", dir(kid("a", link("a")))))),
			kid("d", dir(kid("e", file("e")))))),
		kid("b.c", link("b")))
}

// between are the changes from the sample to the other one.
func between() []api.Change {
	return list(
		add("/0", dir(kid("a", dir(kid("b", file("q")))))),
		edit("/a", dir(kid("a", runs("a")))),
		edit("/b/a", runs("zz")),
		edit("/b/b/a", dir(kid("a", link("a")))),
		drop("/b/b/b"),
		drop("/b/c"),
		add("/b/d", dir(kid("e", file("e")))),
		edit("/b.c", link("b")),
		drop("/to"))
}

// unwell are trees that are not, each with what tree.Check tells of it.
type unwell struct {
	about string
	n     api.Node
	want  error
}

func unwells() []unwell {
	return []unwell{
		{"no kind", api.Node{}, api.ErrKind},
		{"another kind", dir(kid("a", api.Node{Kind: "what"})), api.ErrKind},
		{"a file with kids", api.Node{Kind: "file", Kids: files(1)}, api.ErrShape},
		{"a dir with data", dir(kid("a", api.Node{Kind: "dir", Data: "x"})), api.ErrShape},
		{"a link that runs", api.Node{Kind: "link", Data: "a", Exec: true}, api.ErrShape},
		{"long data", dir(kid("a", file(strings.Repeat("x", api.MaxData+1)))), api.ErrBound},
		{"a link of nothing", link(""), api.ErrBound},
		{"a link's bytes", dir(kid("a", link("a b"))), api.ErrText},
		{"no name", dir(kid("", file(""))), api.ErrName},
		{"names that fall", dir(kid("b", file("")), kid("a", file(""))), api.ErrOrder},
		{"too deep", under(api.MaxDeep+1, file("")), api.ErrDeep},
		{"too many", dir(files(api.MaxNodes)...), api.ErrFull},
		{"a dir in itself", endless(), api.ErrDeep},
		{"deep and wide", wide(), api.ErrDeep},
	}
}

// endless is a dir that is its own kid, so that there is no end of its nodes.
func endless() api.Node {
	kids := make([]api.Kid, 1)
	kids[0] = kid("a", api.Node{Kind: "dir", Kids: kids})
	return api.Node{Kind: "dir", Kids: kids}
}

// wide has 2 to the 60 nodes: neither a copy of it nor a look at all would end.
func wide() api.Node {
	n := file("x")
	for range 60 {
		n = dir(kid("a", n), kid("b", n))
	}
	return n
}

// noPaths are texts that are no paths.
func noPaths() []string {
	return []string{"", "a", "a/b", "//", "/a/", "/a//b", "/.", "/..", "/a/..", "/A", "/a b", "/" + strings.Repeat("x", api.MaxName+1), down(api.MaxDeep + 1)}
}

// draw makes trees from a number alone, so that each run sees the same ones.
type draw uint32

func (d *draw) below(n int) int {
	*d = *d*1664525 + 1013904223
	return int(*d>>16) % n
}

// node has few names, and leaves that are often alike, so that two that are
// drawn have much in common.
func (d *draw) node(deep int) api.Node {
	switch d.below(6) {
	case 0:
		return link(strings.Repeat("x", 1+d.below(2)))
	case 1, 2:
		n := file(strings.Repeat("x", d.below(3)))
		n.Exec = d.below(2) == 0
		return n
	}
	return d.dir(deep)
}

func (d *draw) dir(deep int) api.Node {
	n := dir()
	if deep == 0 {
		return n
	}
	for _, name := range []string{"-", "a", "b", "b-", "b.c", "c"} {
		if d.below(5) < 2 {
			n.Kids = append(n.Kids, kid(name, d.node(deep-1)))
		}
	}
	return n
}

// spoil writes into every list of a node.
func spoil(n api.Node) {
	for i := range n.Kids {
		spoil(n.Kids[i].Node)
		n.Kids[i] = kid("spoilt", link("spoilt"))
	}
}
