package dirs_test

import (
	"fmt"
	"maps"
	"slices"
	"strings"
	"testing"

	"stillroom/api"
	"stillroom/dirs"
	"stillroom/disk"
	"stillroom/inode"
	"stillroom/tree"
)

func file(data string) api.Node { return api.Node{Kind: "file", Data: data} }

func runs(data string) api.Node { return api.Node{Kind: "file", Data: data, Exec: true} }

func link(to string) api.Node { return api.Node{Kind: "link", Data: to} }

func dir(kids ...api.Kid) api.Node { return api.Node{Kind: "dir", Kids: kids} }

func kid(name string, n api.Node) api.Kid { return api.Kid{Name: name, Node: n} }

// down is the path of that many names.
func down(n int) string { return strings.Repeat("/d", n) }

// under lays a node that many dirs deep: down(deep) is its path.
func under(deep int, n api.Node) api.Node {
	for range deep {
		n = dir(kid("d", n))
	}
	return n
}

// files are kids with names that rise, each with bytes of its own.
func files(n int) []api.Kid {
	var kids []api.Kid
	for i := range n {
		kids = append(kids, kid(fmt.Sprintf("f%03d", i), file(fmt.Sprint("data ", i))))
	}
	return kids
}

// long has that many bytes, and no two blocks of it are alike.
func long(n int) string {
	b := make([]byte, n)
	for i := range b {
		b[i] = byte(1 + (i+i/api.BlockSize)%255)
	}
	return string(b)
}

// block begins with that text, and goes on with zeros.
func block(s string) string { return s + strings.Repeat("\x00", api.BlockSize-len(s)) }

// sample is well, has each kind at more than one place, and fills nine blocks.
// Its files' paths do not rise by their bytes: /b.c would stand ahead of /b/a.
// It is new memory each time, so that one may be held against another that was
// handed over.
func sample() api.Node {
	return dir(
		kid("-", link("..")),
		kid("a", file("xy")),
		kid("b", dir(
			kid("a", runs("xy")),
			kid("b", dir(kid("a", file("")), kid("b", link("/a")))),
			kid("c", dir()),
			kid("d", file(long(3*api.BlockSize+1))))),
		kid("b.c", file("\x00\xff\n\x00")),
		kid("c", dir(kid("b", dir(kid("long-name.12", runs(long(2*api.BlockSize))))))))
}

const sampleBlocks = 9

// places are the paths of the sample's files, in tree.Files' order.
func places() []string {
	return []string{"/a", "/b/a", "/b/b/a", "/b/d", "/b.c", "/c/b/long-name.12"}
}

// unwell are trees that are not, each with what tree.Check tells of it.
type unwell struct {
	about string
	n     api.Node
	want  error
}

func unwells() []unwell {
	return []unwell{
		{"no kind", api.Node{}, api.ErrKind},
		{"another kind", dir(kid("a", api.Node{Kind: "what"})), api.ErrKind},
		{"a file with kids", api.Node{Kind: "file", Kids: files(1)}, api.ErrShape},
		{"a dir with data", dir(kid("a", api.Node{Kind: "dir", Data: "x"})), api.ErrShape},
		{"a dir that runs", api.Node{Kind: "dir", Exec: true}, api.ErrShape},
		{"a link that runs", api.Node{Kind: "link", Data: "a", Exec: true}, api.ErrShape},
		{"long data", dir(kid("a", file("x")), kid("b", file(long(api.MaxData+1)))), api.ErrBound},
		{"a link of nothing", dir(kid("a", file("x")), kid("b", link(""))), api.ErrBound},
		{"a link's bytes", dir(kid("a", link("a b"))), api.ErrText},
		{"no name", dir(kid("", file(""))), api.ErrName},
		{"names that fall", dir(kid("b", file("")), kid("a", file(""))), api.ErrOrder},
		{"too deep", under(api.MaxDeep+1, file("")), api.ErrDeep},
		{"too many", dir(files(api.MaxNodes)...), api.ErrFull},
		{"a dir in itself", endless(), api.ErrDeep},
		{"deep and wide", wide(), api.ErrDeep},
		{"no kind, and no room", dir(kid("a", file(long(api.MaxData))), kid("b", api.Node{})), api.ErrKind},
	}
}

// endless is a dir that is its own kid, so that there is no end of its nodes.
func endless() api.Node {
	kids := make([]api.Kid, 1)
	kids[0] = kid("a", api.Node{Kind: "dir", Kids: kids})
	return api.Node{Kind: "dir", Kids: kids}
}

// wide has 2 to the 60 nodes: neither a copy of it nor a look at all would end.
func wide() api.Node {
	n := file("x")
	for range 60 {
		n = dir(kid("a", n), kid("b", n))
	}
	return n
}

// noPaths are texts that are no paths.
func noPaths() []string {
	return []string{
		"", "a", "a/b", "//", "/a/", "//a", "/a//b", "/b/b/a/", "/.", "/..", "/b/../a", "/./a", "/A", "/a b", "/a\x00",
		"/" + strings.Repeat("x", api.MaxName+1), down(api.MaxDeep + 1), strings.Repeat("/", 3000),
	}
}

// spoil writes into every list of a node.
func spoil(n api.Node) {
	for i := range n.Kids {
		spoil(n.Kids[i].Node)
		n.Kids[i] = kid("spoilt", link("spoilt"))
	}
}

// newDirs are over a new disk of that many blocks.
func newDirs(t *testing.T, blocks int) *dirs.Dirs {
	t.Helper()
	b, err := disk.New(blocks)
	if err != nil {
		t.Fatalf("disk.New(%d): %v", blocks, err)
	}
	x, err := inode.New(b)
	if err != nil {
		t.Fatalf("inode.New: %v", err)
	}
	d, err := dirs.New(x)
	if err != nil || d == nil {
		t.Fatalf("New: %v, %v", d, err)
	}
	return d
}

// put a tree, and tell whether it has that number.
func put(t *testing.T, d *dirs.Dirs, want int, n api.Node) {
	t.Helper()
	if k, err := d.Put(n); k != want || err != nil {
		t.Fatalf("Put: %d, %v, want %d", k, err, want)
	}
}

func putFails(t *testing.T, d *dirs.Dirs, n api.Node, want error) {
	t.Helper()
	if k, err := d.Put(n); k != 0 || err != want {
		t.Errorf("Put: %d, %v, want %v", k, err, want)
	}
}

func gets(t *testing.T, d *dirs.Dirs, k int, want api.Node) {
	t.Helper()
	if n, err := d.Get(k); !tree.Same(n, want) || err != nil {
		t.Errorf("Get(%d): %v, %v, want %v", k, n, err, want)
	}
}

func getFails(t *testing.T, d *dirs.Dirs, k int, want error) {
	t.Helper()
	if n, err := d.Get(k); !tree.Same(n, api.Node{}) || err != want {
		t.Errorf("Get(%d): %v, %v, want %v", k, n, err, want)
	}
}

func drop(t *testing.T, d *dirs.Dirs, k int) {
	t.Helper()
	if err := d.Drop(k); err != nil {
		t.Fatalf("Drop(%d): %v", k, err)
	}
}

func dropFails(t *testing.T, d *dirs.Dirs, k int, want error) {
	t.Helper()
	if err := d.Drop(k); err != want {
		t.Errorf("Drop(%d): %v, want %v", k, err, want)
	}
}

// is tells whether a file is that inode.
func is(t *testing.T, d *dirs.Dirs, k int, s string, want int) {
	t.Helper()
	if n, err := d.Inode(k, s); n != want || err != nil {
		t.Errorf("Inode(%d, %q): %d, %v, want %d", k, s, n, err, want)
	}
}

func inodeFails(t *testing.T, d *dirs.Dirs, k int, s string, want error) {
	t.Helper()
	if n, err := d.Inode(k, s); n != 0 || err != want {
		t.Errorf("Inode(%d, %q): %d, %v, want %v", k, s, n, err, want)
	}
}

func share(t *testing.T, d *dirs.Dirs, k int, s string, n int) {
	t.Helper()
	if err := d.Share(k, s, n); err != nil {
		t.Fatalf("Share(%d, %q, %d): %v", k, s, n, err)
	}
}

// shareFails tells whether there is that error, and all stays as it was.
func shareFails(t *testing.T, d *dirs.Dirs, k int, s string, n int, want error) {
	t.Helper()
	was := all(d)
	if err := d.Share(k, s, n); err != want {
		t.Errorf("Share(%d, %q, %d): %v, want %v", k, s, n, err, want)
	}
	if now := all(d); now != was {
		t.Errorf("Share(%d, %q, %d): %s, was %s", k, s, n, now, was)
	}
}

func rot(t *testing.T, d *dirs.Dirs, k, bit int) {
	t.Helper()
	if err := d.Table().Disk().Rot(k, bit); err != nil {
		t.Fatalf("Rot(%d, %d): %v", k, bit, err)
	}
}

// links tells how many links each inode has.
func links(t *testing.T, d *dirs.Dirs, want map[int]int) {
	t.Helper()
	got := map[int]int{}
	for _, n := range d.Table().All() {
		s, _ := d.Table().Stat(n)
		got[n] = s.Links
	}
	if !maps.Equal(got, want) {
		t.Errorf("links %v, want %v", got, want)
	}
}

// holds tells whether so many blocks are free, and just these trees are there.
func holds(t *testing.T, d *dirs.Dirs, free int, want ...int) {
	t.Helper()
	if d.Table().Free() != free {
		t.Errorf("%d blocks are free, want %d", d.Table().Free(), free)
	}
	if got := d.Trees(); !slices.Equal(got, want) {
		t.Errorf("%v are there, want %v", got, want)
	}
}

// all that calls can tell of dirs, their table and their disk.
func all(d *dirs.Dirs) string {
	x := d.Table()
	l := []any{d.Trees(), x.All(), x.Free(), x.Disk().Waits()}
	for _, k := range d.Trees() {
		n, err := d.Get(k)
		l = append(l, n, err)
		for _, s := range tree.Files(n) {
			i, err := d.Inode(k, s)
			l = append(l, s, i, err)
		}
	}
	for _, n := range x.All() {
		s, is := x.Stat(n)
		l = append(l, s, is)
	}
	for k := range x.Disk().Len() {
		s, err := x.Disk().Read(k)
		l = append(l, s, err)
	}
	return fmt.Sprintf("%q", l)
}

// draw makes numbers and trees from a number alone, so that each run sees the
// same ones.
type draw uint32

func (r *draw) below(n int) int {
	*r = *r*1664525 + 1013904223
	return int(*r>>16) % n
}

// node has files that are often alike, so that some can be shared.
func (r *draw) node(deep int) api.Node {
	switch r.below(6) {
	case 0:
		return link(strings.Repeat("x", 1+r.below(3)))
	case 1, 2, 3:
		n := file(strings.Repeat("x", r.below(3)*(api.BlockSize-1)))
		n.Exec = r.below(4) == 0
		return n
	}
	n := dir()
	if deep == 0 {
		return n
	}
	for _, name := range []string{"-", "a", "b", "b-", "b.c", "c"} {
		if r.below(2) == 0 {
			n.Kids = append(n.Kids, kid(name, r.node(deep-1)))
		}
	}
	return n
}
