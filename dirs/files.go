package dirs

import (
	"stillroom/api"
	"stillroom/space"
	"stillroom/tree"
)

// each hands the files of a tree that is well to visit, in tree.Files' order
// and with their paths, and ends at the first error. The path of the top is
// handed in without its slash, so that a kid's path is always its dir's, a
// slash, its name.
func each(n *api.Node, at string, visit func(at string, file *api.Node) error) error {
	if n.Kind == "file" {
		if at == "" {
			at = "/"
		}
		return visit(at, n)
	}
	for i := range n.Kids {
		k := &n.Kids[i]
		if err := each(&k.Node, at+"/"+k.Name, visit); err != nil {
			return err
		}
	}
	return nil
}

// need is how many blocks the files of a tree fill.
func need(n api.Node) int {
	blocks := 0
	// Nothing is lost by not looking at its error: this visit has none.
	_ = each(&n, "", func(_ string, file *api.Node) error {
		blocks += space.Need(len(file.Data))
		return nil
	})
	return blocks
}

// empty makes an inode of each file, which keeps its place alone. Where there
// are blocks enough, only a table without room for any inode has an error, at
// the first file: nothing was made then.
func (d *Dirs) empty(n *api.Node) (map[string]int, error) {
	inodes := map[string]int{}
	err := each(n, "", func(at string, file *api.Node) error {
		k, err := d.table.Make(file.Data, file.Exec)
		if err != nil {
			return err
		}
		inodes[at] = k
		*file = api.Node{Kind: "file"}
		return nil
	})
	return inodes, err
}

// fill is the way back: each file is what its inode is.
func (d *Dirs) fill(n *api.Node, inodes map[string]int) error {
	return each(n, "", func(at string, file *api.Node) error {
		found, err := d.file(inodes[at])
		if err != nil {
			return err
		}
		*file = found
		return nil
	})
}

// file that an inode is.
func (d *Dirs) file(n int) (api.Node, error) {
	data, err := d.table.Read(n)
	if err != nil {
		return api.Node{}, err
	}
	s, _ := d.table.Stat(n) // it was read: it is there
	return api.Node{Kind: "file", Data: data, Exec: s.Exec}, nil
}

// alike tells why one inode can't stand for another.
func (d *Dirs) alike(a, b int) error {
	x, err := d.file(a)
	if err != nil {
		return err
	}
	y, err := d.file(b)
	if err != nil {
		return err
	}
	if !tree.Same(x, y) {
		return api.ErrShape
	}
	return nil
}
