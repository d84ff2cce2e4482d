package refs

import (
	"slices"

	"stillroom/api"
	"stillroom/tree"
)

// checkPack checks one pack, by the names of those ahead of it.
func checkPack(p api.Pack, ahead set) error {
	missing := func(ref string) bool { return ref != p.Name && !ahead.has(ref) }
	switch {
	case !tree.Name(p.Name):
		return api.ErrName
	case ahead.has(p.Name):
		return api.ErrExist
	case len(p.Refs) > api.MaxRefs:
		return api.ErrFull
	case !rise(p.Refs):
		return api.ErrOrder
	case slices.ContainsFunc(p.Refs, missing):
		return api.ErrNone
	}
	return nil
}

// rise: does each stand behind the one ahead of it, and is no name there twice?
func rise(names []string) bool {
	for i := 1; i < len(names); i++ {
		if names[i-1] >= names[i] {
			return false
		}
	}
	return true
}

// known checks the packs, and whether each of the names is one's.
func known(l []api.Pack, names ...string) error {
	if err := Check(l); err != nil {
		return err
	}
	there := set{}
	for _, p := range l {
		there.add(p.Name)
	}
	for _, name := range names {
		if !there.has(name) {
			return api.ErrNone
		}
	}
	return nil
}

// need is what these names need, and they themselves. One round from the end is
// enough: what a pack needs stands ahead of it, and its turn is still to come.
func need(l []api.Pack, names []string) (set, error) {
	if err := known(l, names...); err != nil {
		return nil, err
	}
	needed := set{}
	needed.add(names...)
	for _, p := range slices.Backward(l) {
		if needed.has(p.Name) {
			needed.add(p.Refs...)
		}
	}
	return needed, nil
}

// lastFirst tells the names of the packs that are asked for, the last one first.
func lastFirst(l []api.Pack, asked func(p api.Pack) bool) []string {
	var names []string
	for _, p := range slices.Backward(l) {
		if asked(p) {
			names = append(names, p.Name)
		}
	}
	return names
}
