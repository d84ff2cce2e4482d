package path_test

import (
	"fmt"
	"strings"

	"stillroom/api"
)

func file(data string) api.Node { return api.Node{Kind: "file", Data: data} }

func runs(data string) api.Node { return api.Node{Kind: "file", Data: data, Exec: true} }

func link(to string) api.Node { return api.Node{Kind: "link", Data: to} }

func dir(kids ...api.Kid) api.Node { return api.Node{Kind: "dir", Kids: kids} }

func kid(name string, n api.Node) api.Kid { return api.Kid{Name: name, Node: n} }

func bytes(n int) string { return strings.Repeat("x", n) }

// down is the path of that many names.
func down(n int) string { return strings.Repeat("/d", n) }

// under lays a node that many dirs deep: down(dirs) is its path.
func under(dirs int, n api.Node) api.Node {
	for range dirs {
		n = dir(kid("d", n))
	}
	return n
}

// files are kids with names that rise.
func files(n int) []api.Kid {
	var kids []api.Kid
	for i := range n {
		kids = append(kids, kid(fmt.Sprintf("f%03d", i), file("x")))
	}
	return kids
}

// sample is well, and has each kind at more than one place. It is new memory
// each time, so that one may be held against another that was handed over.
func sample() api.Node {
	return dir(
		kid("-", link("..")),
		kid("a", file("xy")),
		kid("b", dir(
			kid("a", runs("z")),
			kid("b", dir(kid("a", file("")), kid("b", link("/a")))),
			kid("c", dir()),
			kid("d", file("four")))),
		kid("b.c", file("\x00\xff\n")),
		kid("c", dir(kid("b", dir(kid("long-name.12", runs("12345")))))),
		kid("to", link("b")))
}

// places are the paths of all nodes of the sample.
func places() []string {
	return []string{"/", "/-", "/a", "/b", "/b/a", "/b/b", "/b/b/a", "/b/b/b", "/b/c", "/b/d", "/b.c", "/c", "/c/b", "/c/b/long-name.12", "/to"}
}

// unwell are trees that are not, each with what tree.Check tells of it.
type unwell struct {
	about string
	n     api.Node
	want  error
}

func unwells() []unwell {
	return []unwell{
		{"no kind", api.Node{}, api.ErrKind},
		{"another kind", dir(kid("a", api.Node{Kind: "what"})), api.ErrKind},
		{"a file with kids", api.Node{Kind: "file", Kids: files(1)}, api.ErrShape},
		{"a dir with data", dir(kid("a", api.Node{Kind: "dir", Data: "x"})), api.ErrShape},
		{"a link that runs", api.Node{Kind: "link", Data: "a", Exec: true}, api.ErrShape},
		{"long data", dir(kid("a", file(bytes(api.MaxData+1)))), api.ErrBound},
		{"a link of nothing", dir(kid("a", link(""))), api.ErrBound},
		{"a link's bytes", dir(kid("a", link("a b"))), api.ErrText},
		{"no name", dir(kid("", file(""))), api.ErrName},
		{"names that fall", dir(kid("b", file("")), kid("a", file(""))), api.ErrOrder},
		{"too deep", under(api.MaxDeep+1, file("")), api.ErrDeep},
		{"too many", dir(files(api.MaxNodes)...), api.ErrFull},
	}
}

// endless is a dir that is its own kid, so that there is no end of its nodes.
func endless() api.Node {
	kids := make([]api.Kid, 1)
	kids[0] = kid("a", api.Node{Kind: "dir", Kids: kids})
	return api.Node{Kind: "dir", Kids: kids}
}

// noPaths are texts that are no paths.
func noPaths() []string {
	l := []string{
		"", "a", "a/b", " ", "//", "///", "/a/", "/a//b", "//a", "/a/b/", " /a", "/a ", "/a b", "\\a",
		"/.", "/..", "/a/.", "/a/..", "/./a", "/../a", "/A", "/a/B", "/é", "/a\x00", "/a_b", "/a\n", "~", "#a",
		"/" + bytes(api.MaxName+1), "/a/" + bytes(api.MaxName+1),
		down(api.MaxDeep + 1), down(api.MaxDeep) + "/", down(3000), down(api.MaxDeep+1) + "/A", strings.Repeat("/", 3000), bytes(3000),
	}
	return l
}

// draw makes trees from a number alone, so that each run sees the same ones.
type draw uint32

func (d *draw) below(n int) int {
	*d = *d*1664525 + 1013904223
	return int(*d>>16) % n
}

func (d *draw) node(deep int) api.Node {
	switch d.below(5) {
	case 0:
		return link(d.to())
	case 1:
		n := file(bytes(d.below(30)))
		n.Exec = d.below(2) == 0
		return n
	}
	n := dir()
	if deep == 0 {
		return n
	}
	for i := range d.below(5) {
		n.Kids = append(n.Kids, kid(string(rune('a'+2*i)), d.node(deep-1)))
	}
	return n
}

// to is where a link goes: names that are often there, dots, and now and then
// what is none.
func (d *draw) to() string {
	words := []string{"a", "c", "e", "g", "a", "c", "..", "..", ".", "", "b", "A"}
	var l []string
	for range 1 + d.below(4) {
		l = append(l, words[d.below(len(words))])
	}
	s := strings.Join(l, "/")
	if s == "" || d.below(3) == 0 {
		s = "/" + s
	}
	return s
}

// top is a dir, drawn.
func (d *draw) top() api.Node {
	return dir(kid("a", d.node(3)), kid("c", d.node(2)), kid("e", d.node(2)))
}
