package tree

import "stillroom/api"

// walk hands each node to visit, ahead of its kids, with its path and how deep
// it lies, and ends at the first error. The path of the first node is handed in
// without its slash, so that a kid's path is always its dir's, a slash, its name.
func walk(path string, deep int, n api.Node, visit func(path string, deep int, n api.Node) error) error {
	if err := visit(path, deep, n); err != nil {
		return err
	}
	for _, k := range n.Kids {
		if err := walk(path+"/"+k.Name, deep+1, k.Node, visit); err != nil {
			return err
		}
	}
	return nil
}

// each hands over the nodes of a tree that is well. It checks the whole tree
// first, since of one that is not well nothing at all is told.
func each(n api.Node, visit func(path string, n api.Node)) {
	if Check(n) != nil {
		return
	}
	// Nothing is lost by not looking at walk's error: this visit has none.
	_ = walk("", 0, n, func(path string, _ int, n api.Node) error {
		visit(path, n)
		return nil
	})
}
