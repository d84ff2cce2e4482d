package scan

import (
	"slices"

	"stillroom/api"
)

// tally counts mentions, by the names that are asked for.
type tally map[string]int

// ask begins a tally. What is no name needs no look here: it is never mentioned.
func ask(names []string) tally {
	t := tally{}
	for _, name := range names {
		t[name] = 0
	}
	return t
}

func (t tally) look(s string) {
	mentions(s, func(_ int, name string) {
		if n, asked := t[name]; asked {
			t[name] = n + 1
		}
	})
}

// lookAll looks at all nodes of a tree that is well: a dir of it has no Data, and
// a file or a link no kids, so that no kind needs to be told from another one.
func (t tally) lookAll(n api.Node) {
	t.look(n.Data)
	for _, k := range n.Kids {
		t.lookAll(k.Node)
	}
}

func (t tally) found() []string {
	var names []string
	for name, n := range t {
		if n > 0 {
			names = append(names, name)
		}
	}
	slices.Sort(names)
	return names
}
