package path

import (
	"strings"

	"stillroom/api"
	"stillroom/tree"
)

// walker goes through a tree, from its top, name by name. Links put their names
// ahead of those that are left.
type walker struct {
	top   api.Node
	here  []string // names from the top to where it is; none of them is a link
	ahead []string // names that are left
	links int
}

// step takes the next name. Whether it is one is told ahead of whether it is
// there: what is none is nowhere.
func (w *walker) step() error {
	name := w.ahead[0]
	w.ahead = w.ahead[1:]
	switch name {
	case "", ".":
		return nil
	case "..":
		w.here = w.here[:max(0, len(w.here)-1)]
		return nil
	}
	if !tree.Name(name) {
		return api.ErrName
	}
	there := append(w.here, name)
	next := at(&w.top, there)
	if next == nil {
		return api.ErrNone
	}
	if next.Kind == "link" {
		return w.follow(next.Data)
	}
	w.here = there
	return nil
}

func (w *walker) follow(to string) error {
	w.links++
	if w.links > api.MaxFollow {
		return api.ErrDeep
	}
	if strings.HasPrefix(to, "/") {
		w.here = nil
	}
	w.ahead = append(strings.Split(to, "/"), w.ahead...)
	return nil
}
