package dirs_test

import (
	"slices"
	"testing"

	"stillroom/api"
	"stillroom/dirs"
	"stillroom/path"
	"stillroom/tree"
)

// named is a file of a tree, and the inode that it is.
type named struct {
	tree  int
	path  string
	inode int
}

// trees tell dirs slowly: all that were ever put, and a list of their files,
// from which links, numbers and blocks are counted anew at every look.
type trees struct {
	blocks int
	put    []api.Node
	gone   []bool
	files  []named
}

func (m *trees) has(k int) bool { return k >= 0 && k < len(m.put) && !m.gone[k] }

func (m *trees) there() []int {
	var l []int
	for k := range m.put {
		if m.has(k) {
			l = append(l, k)
		}
	}
	return l
}

func (m *trees) find(k int, s string) int {
	return slices.IndexFunc(m.files, func(f named) bool { return f.tree == k && f.path == s })
}

// node of an inode, by any file that is it.
func (m *trees) node(n int) (api.Node, bool) {
	i := slices.IndexFunc(m.files, func(f named) bool { return f.inode == n })
	if i < 0 {
		return api.Node{}, false
	}
	x, err := path.Get(m.put[m.files[i].tree], m.files[i].path)
	return x, err == nil
}

func (m *trees) links() map[int]int {
	l := map[int]int{}
	for _, f := range m.files {
		l[f.inode]++
	}
	return l
}

func fills(x api.Node) int { return (len(x.Data) + api.BlockSize - 1) / api.BlockSize }

func (m *trees) free() int {
	free := m.blocks
	for n := range m.links() {
		x, _ := m.node(n)
		free -= fills(x)
	}
	return free
}

func (m *trees) putOne(n api.Node) (int, error) {
	need := 0
	for _, s := range tree.Files(n) {
		x, _ := path.Get(n, s)
		need += fills(x)
	}
	if need > m.free() {
		return 0, api.ErrFull
	}
	k := len(m.put)
	m.put, m.gone = append(m.put, n), append(m.gone, false)
	for _, s := range tree.Files(n) {
		i := 0
		for m.links()[i] > 0 {
			i++
		}
		m.files = append(m.files, named{k, s, i})
	}
	return k, nil
}

func (m *trees) dropOne(k int) error {
	if !m.has(k) {
		return api.ErrNone
	}
	m.gone[k] = true
	m.files = slices.DeleteFunc(m.files, func(f named) bool { return f.tree == k })
	return nil
}

func (m *trees) shareOne(k int, s string, n int) error {
	i := m.find(k, s)
	x, there := m.node(n)
	if i < 0 || !there {
		return api.ErrNone
	}
	was, _ := m.node(m.files[i].inode)
	if !tree.Same(x, was) {
		return api.ErrShape
	}
	m.files[i].inode = n
	return nil
}

// both do the same to dirs and to their trees.
func both(t *testing.T, r *draw, d *dirs.Dirs, m *trees) {
	t.Helper()
	k := r.below(len(m.put)+2) - 1
	switch r.below(8) {
	case 0, 1:
		n := r.node(3)
		want, wrong := m.putOne(n)
		if got, err := d.Put(n); got != want || err != wrong {
			t.Fatalf("Put: %d, %v, want %d, %v", got, err, want, wrong)
		}
	case 2:
		wrong := m.dropOne(k)
		if err := d.Drop(k); err != wrong {
			t.Fatalf("Drop(%d): %v, want %v", k, err, wrong)
		}
	default:
		s := "/"
		if len(m.files) > 0 && r.below(9) > 0 {
			f := m.files[r.below(len(m.files))]
			k, s = f.tree, f.path
		}
		n := r.below(len(m.files)+2) - 1
		wrong := m.shareOne(k, s, n)
		if err := d.Share(k, s, n); err != wrong {
			t.Fatalf("Share(%d, %q, %d): %v, want %v", k, s, n, err, wrong)
		}
	}
}

// told: P82: each inode has just as many links as there are files that are it;
// and trees are read as they were put.
func (m *trees) told(t *testing.T, d *dirs.Dirs) {
	t.Helper()
	holds(t, d, m.free(), m.there()...)
	links(t, d, m.links())
	for _, f := range m.files {
		is(t, d, f.tree, f.path, f.inode)
	}
	for k, n := range m.put {
		if m.has(k) {
			gets(t, d, k, n)
		} else {
			getFails(t, d, k, api.ErrNone)
		}
	}
}

func TestEachInodeHasAsManyLinksAsFiles(t *testing.T) {
	var r draw = 82
	for _, blocks := range []int{1, 4, 12, 40} {
		d, m := newDirs(t, blocks), &trees{blocks: blocks}
		for range 400 {
			both(t, &r, d, m)
			m.told(t, d)
			if t.Failed() {
				t.FailNow()
			}
		}
	}
}
