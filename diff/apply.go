package diff

import (
	"stillroom/api"
	"stillroom/path"
	"stillroom/tree"
)

// apply makes one change of a tree that is well.
func apply(n api.Node, c api.Change) (api.Node, error) {
	switch c.Kind {
	case "add":
		return add(n, c)
	case "edit":
		return edit(n, c)
	case "drop":
		return drop(n, c)
	}
	return api.Node{}, api.ErrKind
}

// add leaves a path that is none to path.Put: nothing is there.
func add(n api.Node, c api.Change) (api.Node, error) {
	if _, err := path.Get(n, c.Path); err == nil {
		return api.Node{}, api.ErrExist
	}
	return path.Put(n, c.Path, c.Node)
}

func edit(n api.Node, c api.Change) (api.Node, error) {
	if _, err := path.Get(n, c.Path); err != nil {
		return api.Node{}, err
	}
	return path.Put(n, c.Path, c.Node)
}

func drop(n api.Node, c api.Change) (api.Node, error) {
	if !tree.Same(c.Node, api.Node{}) {
		return api.Node{}, api.ErrShape
	}
	return path.Drop(n, c.Path)
}
