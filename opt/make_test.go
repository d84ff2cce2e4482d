package opt_test

import (
	"fmt"
	"strings"
	"testing"

	"stillroom/api"
	"stillroom/dirs"
	"stillroom/disk"
	"stillroom/inode"
	"stillroom/opt"
	"stillroom/tree"
)

func file(data string) api.Node { return api.Node{Kind: "file", Data: data} }

func runs(data string) api.Node { return api.Node{Kind: "file", Data: data, Exec: true} }

func link(to string) api.Node { return api.Node{Kind: "link", Data: to} }

func dir(kids ...api.Kid) api.Node { return api.Node{Kind: "dir", Kids: kids} }

func kid(name string, n api.Node) api.Kid { return api.Kid{Name: name, Node: n} }

// long has that many bytes, and no two blocks of it are alike.
func long(n int) string {
	b := make([]byte, n)
	for i := range b {
		b[i] = byte(1 + (i+i/api.BlockSize)%255)
	}
	return string(b)
}

// block begins with that text, and goes on with zeros.
func block(s string) string { return s + strings.Repeat("\x00", api.BlockSize-len(s)) }

// room is dirs, and beside them the trees as they were put, so that what the
// files are is known also where they can't be read.
type room struct {
	*dirs.Dirs
	blocks int
	trees  map[int]api.Node
}

// newRoom is over a new disk of that many blocks.
func newRoom(t *testing.T, blocks int, trees ...api.Node) *room {
	t.Helper()
	b, err := disk.New(blocks)
	if err != nil {
		t.Fatalf("disk.New(%d): %v", blocks, err)
	}
	x, err := inode.New(b)
	if err != nil {
		t.Fatalf("inode.New: %v", err)
	}
	d, err := dirs.New(x)
	if err != nil {
		t.Fatalf("dirs.New: %v", err)
	}
	r := &room{d, blocks, map[int]api.Node{}}
	for _, n := range trees {
		r.put(t, n)
	}
	return r
}

func (r *room) put(t *testing.T, n api.Node) {
	t.Helper()
	k, err := r.Put(n)
	if err != nil {
		t.Fatalf("Put: %v", err)
	}
	r.trees[k] = tree.Copy(n)
}

func (r *room) drop(t *testing.T, k int) {
	t.Helper()
	if err := r.Drop(k); err != nil {
		t.Fatalf("Drop(%d): %v", k, err)
	}
	delete(r.trees, k)
}

func (r *room) share(t *testing.T, k int, s string, n int) {
	t.Helper()
	if err := r.Share(k, s, n); err != nil {
		t.Fatalf("Share(%d, %q, %d): %v", k, s, n, err)
	}
}

// rot turns a bit of a block; a second time it is turned back.
func (r *room) rot(t *testing.T, k, bit int) {
	t.Helper()
	if err := r.Table().Disk().Rot(k, bit); err != nil {
		t.Fatalf("Rot(%d, %d): %v", k, bit, err)
	}
}

// node of an inode, and whether it can be read.
func (r *room) node(n int) (api.Node, bool) {
	data, err := r.Table().Read(n)
	s, _ := r.Table().Stat(n)
	return api.Node{Kind: "file", Data: data, Exec: s.Exec}, err == nil
}

// named is a file of a tree, and the inode that it is.
type named struct {
	tree  int
	path  string
	inode int
}

func (r *room) files() []named {
	var l []named
	for _, k := range r.Trees() {
		for _, s := range tree.Files(r.trees[k]) {
			n, _ := r.Inode(k, s)
			l = append(l, named{k, s, n})
		}
	}
	return l
}

// told: 1/a=0 is file /a of tree 1, which is inode 0.
func told(files []named) string {
	var l []string
	for _, f := range files {
		l = append(l, fmt.Sprintf("%d%s=%d", f.tree, f.path, f.inode))
	}
	return strings.Join(l, " ")
}

func (r *room) are(t *testing.T, want string) {
	t.Helper()
	if got := told(r.files()); got != want {
		t.Errorf("files %s, want %s", got, want)
	}
	r.well(t)
}

// well: P92: trees are read as they were, but those with a file whose bytes
// rotted; and each inode has as many links as there are files that are it.
func (r *room) well(t *testing.T) {
	t.Helper()
	links, rotten := map[int]int{}, map[int]bool{}
	for _, f := range r.files() {
		links[f.inode]++
		if _, is := r.node(f.inode); !is {
			rotten[f.tree] = true
		}
	}
	for k, n := range r.trees {
		got, err := r.Get(k)
		if rotten[k] && err != api.ErrSum || !rotten[k] && (err != nil || !tree.Same(got, n)) {
			t.Errorf("Get(%d): %v, %v, was %v", k, got, err, n)
		}
	}
	for _, n := range r.Table().All() {
		if s, _ := r.Table().Stat(n); s.Links != links[n] {
			t.Errorf("inode %d has %d links, %d files are it", n, s.Links, links[n])
		}
	}
}

// step finds one, and then the files are these.
func (r *room) step(t *testing.T, want string) {
	t.Helper()
	if is, err := opt.Step(r.Dirs); !is || err != nil {
		t.Errorf("Step: %v, %v", is, err)
	}
	r.are(t, want)
}

// none is found any more, neither by one nor by all, and nothing changes.
func (r *room) none(t *testing.T) {
	t.Helper()
	was := r.all()
	if is, err := opt.Step(r.Dirs); is || err != nil {
		t.Errorf("Step: %v, %v, want none", is, err)
	}
	if n, err := opt.All(r.Dirs); n != 0 || err != nil {
		t.Errorf("All: %d, %v, want none", n, err)
	}
	if now := r.all(); now != was {
		t.Errorf("%s, was %s", now, was)
	}
	r.well(t)
}

// steps are all that there are, and then the files are these.
func (r *room) steps(t *testing.T, n int, want string) {
	t.Helper()
	if got, err := opt.All(r.Dirs); got != n || err != nil {
		t.Errorf("All: %d, %v, want %d", got, err, n)
	}
	r.are(t, want)
	r.none(t)
}

// saves that many blocks, and that many are free.
func (r *room) saves(t *testing.T, want, free int) {
	t.Helper()
	if got := opt.Saved(r.Dirs); got != want {
		t.Errorf("%d blocks are saved, want %d", got, want)
	}
	if got := r.Table().Free(); got != free {
		t.Errorf("%d blocks are free, want %d", got, free)
	}
}

// all that calls can tell of the room.
func (r *room) all() string {
	x := r.Table()
	l := []any{r.Trees(), told(r.files()), x.All(), x.Free(), x.Disk().Waits(), opt.Saved(r.Dirs)}
	for _, n := range x.All() {
		s, _ := x.Stat(n)
		l = append(l, s)
	}
	for k := range x.Disk().Len() {
		s, _ := x.Disk().Read(k)
		l = append(l, s)
	}
	return fmt.Sprintf("%q", l)
}
