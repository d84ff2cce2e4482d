package store

import (
	"maps"
	"slices"

	"stillroom/api"
	"stillroom/dirs"
	"stillroom/disk"
	"stillroom/inode"
)

// stock is all that lines change: a copy of it is all that a change needs to be
// tried on.
type stock struct {
	packs   []api.Pack     // in the order in which they came, without their trees
	numbers map[string]int // the trees', by the packs' names
	roots   []string       // rising
	trees   *dirs.Dirs
}

// newStock is empty, over a new disk.
func newStock(blocks int) (*stock, error) {
	d, err := disk.New(blocks)
	if err != nil {
		return nil, err
	}
	t, err := inode.New(d)
	if err != nil {
		return nil, err
	}
	trees, err := dirs.New(t)
	if err != nil {
		return nil, err
	}
	return &stock{numbers: map[string]int{}, trees: trees}, nil
}

// copy goes on by itself. The packs' Refs are both's: they are never changed.
func (k *stock) copy() *stock {
	return &stock{
		packs:   slices.Clone(k.packs),
		numbers: maps.Clone(k.numbers),
		roots:   slices.Clone(k.roots),
		trees:   k.trees.Copy(),
	}
}

func (k *stock) table() *inode.Table { return k.trees.Table() }

func (k *stock) has(name string) bool {
	_, is := k.numbers[name]
	return is
}

// names of the packs, in order.
func (k *stock) names() []string {
	var l []string
	for _, p := range k.packs {
		l = append(l, p.Name)
	}
	return l
}

// tree of a pack.
func (k *stock) tree(name string) (api.Node, error) {
	n, is := k.numbers[name]
	if !is {
		return api.Node{}, api.ErrNone
	}
	return k.trees.Get(n)
}

// drop a pack that is there.
func (k *stock) drop(name string) error {
	if err := k.trees.Drop(k.numbers[name]); err != nil {
		return err
	}
	delete(k.numbers, name)
	k.packs = slices.DeleteFunc(k.packs, func(p api.Pack) bool { return p.Name == name })
	return nil
}
