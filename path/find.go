package path

import (
	"slices"
	"strings"

	"stillroom/api"
)

// find tells where a name is among kids whose names rise, or where it would be.
func find(kids []api.Kid, name string) (int, bool) {
	return slices.BinarySearchFunc(kids, name, func(k api.Kid, name string) int {
		return strings.Compare(k.Name, name)
	})
}

// at goes from a node of a tree that is well to the one that names lead to; nil
// if there is none. A file and a link need no look at their kind: they have no
// kids.
func at(n *api.Node, names []string) *api.Node {
	for _, name := range names {
		i, there := find(n.Kids, name)
		if !there {
			return nil
		}
		n = &n.Kids[i].Node
	}
	return n
}

// room goes to the place that names lead to, and makes a new one in its dir if
// there is none; nil if there is no such dir.
func room(n *api.Node, names []string) *api.Node {
	if len(names) == 0 {
		return n
	}
	name := names[len(names)-1]
	dir := at(n, names[:len(names)-1])
	if dir == nil || dir.Kind != "dir" {
		return nil
	}
	i, there := find(dir.Kids, name)
	if !there {
		dir.Kids = slices.Insert(dir.Kids, i, api.Kid{Name: name})
	}
	return &dir.Kids[i].Node
}
