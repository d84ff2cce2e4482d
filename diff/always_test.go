package diff_test

import (
	"fmt"
	"slices"
	"testing"

	"stillroom/api"
	"stillroom/diff"
	"stillroom/tree"
)

// slowly tells changes by another way: from the words of the document, with the
// names of both dirs in one list.
func slowly(a, b api.Node) []api.Change {
	if tree.Same(a, b) {
		return nil
	}
	if a.Kind != "dir" || b.Kind != "dir" {
		return list(edit("/", b))
	}
	in, to := map[string]api.Node{}, map[string]api.Node{}
	var names []string
	for _, k := range a.Kids {
		in[k.Name] = k.Node
		names = append(names, k.Name)
	}
	for _, k := range b.Kids {
		to[k.Name] = k.Node
		names = append(names, k.Name)
	}
	slices.Sort(names)
	var l []api.Change
	for _, name := range slices.Compact(names) {
		x, inA := in[name]
		y, inB := to[name]
		switch {
		case !inB:
			l = append(l, drop("/"+name))
		case !inA:
			l = append(l, add("/"+name, y))
		default:
			for _, c := range slowly(x, y) {
				if c.Path == "/" {
					c.Path = ""
				}
				c.Path = "/" + name + c.Path
				l = append(l, c)
			}
		}
	}
	return l
}

// makes wants b from a by what Diff tells, and that it tells what it should.
func makes(t *testing.T, about string, a, b api.Node) []api.Change {
	t.Helper()
	l, err := diff.Diff(a, b)
	if err != nil || !slices.EqualFunc(l, slowly(a, b), sameChange) {
		t.Errorf("%s: %v, %v, want %v", about, l, err, slowly(a, b))
	}
	if n, err := diff.Apply(a, l); err != nil || !tree.Same(n, b) {
		t.Errorf("%s: %v applied: %v, %v", about, l, n, err)
	}
	return l
}

func TestAlwaysMakesTheOther(t *testing.T) {
	told := map[string]int{}
	for i := range 3000 {
		d := draw(i)
		a, b := d.dir(4), d.dir(4)
		if i%10 == 0 {
			a, b = d.node(2), d.node(2)
		}
		if tree.Check(a) != nil || tree.Check(b) != nil || tree.Count(a)+tree.Count(b) > api.MaxNodes {
			continue
		}
		l := makes(t, fmt.Sprint(i), a, b)
		makes(t, fmt.Sprint(i, " and back"), b, a)
		makes(t, fmt.Sprint(i, " and itself"), a, a)
		if len(l) == 0 {
			told["nothing"]++
		}
		for _, c := range l {
			told[c.Kind]++
			if len(c.Path) > 4 {
				told["deeper "+c.Kind]++
			}
		}
	}
	for _, s := range []string{"nothing", "add", "drop", "edit", "deeper add", "deeper drop", "deeper edit"} {
		if told[s] < 20 {
			t.Errorf("%s is told %d times: too few to try it", s, told[s])
		}
	}
}

func TestAlwaysAtBounds(t *testing.T) {
	full := dir(files(api.MaxNodes - 1)...)
	for about, c := range map[string][2]api.Node{
		"sample":                     {sample(), other()},
		"all that may be, new":       {dir(), full},
		"all that may be, at once":   {file(""), full},
		"all that may be, one moved": {full, dir(append(files(api.MaxNodes - 1)[1:], kid("z", link("z")))...)},
		"each of them":               {full, allRun(full)},
		"MaxDeep":                    {under(api.MaxDeep, file("x")), under(api.MaxDeep-1, link("x"))},
		"MaxDeep, another kind":      {under(api.MaxDeep, dir()), under(api.MaxDeep, link("x"))},
		"MaxDeep, at once":           {dir(), under(api.MaxDeep, dir())},
		"as many as fit together":    {dir(kid("z", dir(files(99)...))), dir(kid("a", dir(files(98)...)))},
	} {
		if len(makes(t, about, c[0], c[1])) == 0 {
			t.Error(about, "tells nothing")
		}
	}
}

func allRun(n api.Node) api.Node {
	n = tree.Copy(n)
	for i := range n.Kids {
		n.Kids[i].Node.Exec = true
	}
	return n
}

// Changes are told by names, and applied one by one to trees that must be well:
// so one that is ahead of a drop may find no room, though there would be at the
// end. It is told as path.Put tells it.
func TestNoRoomOnTheWay(t *testing.T) {
	full := dir(files(api.MaxNodes - 1)...)
	moved := dir(append([]api.Kid{kid("a", file("x"))}, files(api.MaxNodes-2)...)...)
	differs(t, "the last moved to the first", full, moved, list(add("/a", file("x")), drop("/f198")))
	applyFails(t, "an add ahead of its room", full, list(add("/a", file("x")), drop("/f198")), 0, api.ErrFull)
	applies(t, "the same, room first", full, list(drop("/f198"), add("/a", file("x"))), moved)
}
