package tree_test

import (
	"fmt"
	"strings"

	"stillroom/api"
)

func file(data string) api.Node { return api.Node{Kind: "file", Data: data} }

func runs(data string) api.Node { return api.Node{Kind: "file", Data: data, Exec: true} }

func link(to string) api.Node { return api.Node{Kind: "link", Data: to} }

func dir(kids ...api.Kid) api.Node { return api.Node{Kind: "dir", Kids: kids} }

func kid(name string, n api.Node) api.Kid { return api.Kid{Name: name, Node: n} }

func bytes(n int) string { return strings.Repeat("x", n) }

// under lays a node that many dirs deep.
func under(dirs int, n api.Node) api.Node {
	for range dirs {
		n = dir(kid("d", n))
	}
	return n
}

// files are kids with names that rise.
func files(n int) []api.Kid {
	var kids []api.Kid
	for i := range n {
		kids = append(kids, kid(fmt.Sprintf("f%03d", i), file("x")))
	}
	return kids
}

// behind is a dir with that many files ahead of one more kid.
func behind(n int, last api.Node) api.Node { return dir(append(files(n), kid("z", last))...) }

// copyOf shares no memory with the node that it is made from.
func copyOf(n api.Node) api.Node {
	c := api.Node{Kind: strings.Clone(n.Kind), Data: strings.Clone(n.Data), Exec: n.Exec}
	for _, k := range n.Kids {
		c.Kids = append(c.Kids, kid(strings.Clone(k.Name), copyOf(k.Node)))
	}
	return c
}

// sample is well, and has each kind at more than one place.
func sample() api.Node {
	return dir(
		kid("-", link("..")),
		kid("a", file("xy")),
		kid("b", dir(
			kid("a", runs("z")),
			kid("b", dir(kid("a", file("")), kid("b", link("/a")))),
			kid("c", dir()),
			kid("d", file("four")))),
		kid("b.c", file("\x00\xff\n")),
		kid("c", dir(kid("b", dir(kid("a", runs("12345")))))))
}

// draw makes trees from a number alone, so that each run sees the same ones.
type draw uint32

func (d *draw) below(n int) int {
	*d = *d*1664525 + 1013904223
	return int(*d>>16) % n
}

func (d *draw) node(deep int) api.Node {
	switch d.below(4) {
	case 0:
		return link(bytes(1 + d.below(api.MaxLink)))
	case 1:
		n := file(bytes(d.below(30)))
		n.Exec = d.below(2) == 0
		return n
	}
	n := dir()
	if deep == 0 {
		return n
	}
	for i := range d.below(4) {
		n.Kids = append(n.Kids, kid(string(rune('a'+i)), d.node(deep-1)))
	}
	return n
}
