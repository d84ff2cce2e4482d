package pack_test

import (
	"fmt"
	"strings"

	"stillroom/api"
)

func file(data string) api.Node { return api.Node{Kind: "file", Data: data} }

func runs(data string) api.Node { return api.Node{Kind: "file", Data: data, Exec: true} }

func link(to string) api.Node { return api.Node{Kind: "link", Data: to} }

func dir(kids ...api.Kid) api.Node { return api.Node{Kind: "dir", Kids: kids} }

func kid(name string, n api.Node) api.Kid { return api.Kid{Name: name, Node: n} }

func bytes(n int) string { return strings.Repeat("x", n) }

// dirs is the text that begins that many dirs, one in the other, up to where
// the node in the last one would begin.
func dirs(n int) string { return strings.Repeat("d1:1:d", n) }

// kids is the text of that many kids with names that rise.
func kids(n int) string {
	var b strings.Builder
	for i := range n {
		fmt.Fprintf(&b, "4:f%03df0:", i)
	}
	return b.String()
}

// fits is a tree whose text has just that many bytes: some thousands.
func fits(size int) (api.Node, string) {
	var n api.Node
	s := ""
	for i := 0; ; i++ {
		head := fmt.Sprintf("d%d:", i+1)
		rest := size - len(head) - len(s)
		if rest <= api.MaxData {
			last := rest - len("2:zzf1000:")
			n.Kind, n.Kids = "dir", append(n.Kids, kid("zz", file(bytes(last))))
			return n, head + s + fmt.Sprintf("2:zzf%d:", last) + bytes(last)
		}
		name := fmt.Sprintf("%02d", i)
		n.Kids = append(n.Kids, kid(name, file(bytes(900))))
		s += "2:" + name + "f900:" + bytes(900)
	}
}

// sample is well, and has each kind at more than one place.
func sample() (api.Node, string) {
	n := dir(
		kid("-", link("..")),
		kid("a", file("xy")),
		kid("b", dir(
			kid("a", runs("z")),
			kid("b", dir(kid("a", file("")), kid("b", link("/a")))),
			kid("c", dir()),
			kid("d", file("four")))),
		kid("b.c", file("\x00\xff\n")),
		kid("c", dir(kid("b", dir(kid("long-name.12", runs("12345678901")))))))
	return n, "d5:1:-l2:..1:af2:xy1:bd4:1:ax1:z1:bd2:1:af0:1:bl2:/a1:cd0:1:df4:four3:b.cf3:\x00\xff\n1:cd1:1:bd1:12:long-name.12x11:12345678901"
}

// draw makes trees from a number alone, so that each run sees the same ones.
type draw uint32

func (d *draw) below(n int) int {
	*d = *d*1664525 + 1013904223
	return int(*d>>16) % n
}

func (d *draw) node(deep int) api.Node {
	switch d.below(4) {
	case 0:
		return link(bytes(1 + d.below(api.MaxLink)))
	case 1:
		n := file(strings.Repeat("f1:a", d.below(30)))
		n.Exec = d.below(2) == 0
		return n
	}
	n := dir()
	if deep == 0 {
		return n
	}
	for i := range d.below(4) {
		n.Kids = append(n.Kids, kid(string(rune('a'+i)), d.node(deep-1)))
	}
	return n
}
