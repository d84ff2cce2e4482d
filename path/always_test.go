package path_test

import (
	"maps"
	"slices"
	"strings"
	"testing"

	"stillroom/api"
	"stillroom/path"
	"stillroom/tree"
)

// laid is a tree laid out flat: each node, without its kids, by its path.
func laid(n api.Node) map[string]string {
	m := map[string]string{}
	var lay func(s string, n api.Node)
	lay = func(s string, n api.Node) {
		m[s] = n.Kind + " " + n.Data
		if n.Exec {
			m[s] += " runs"
		}
		for _, k := range n.Kids {
			lay(strings.TrimSuffix(s, "/")+"/"+k.Name, k.Node)
		}
	}
	lay("/", n)
	return m
}

// without goes from a tree laid out flat to one without a path and all that is
// behind it.
func without(m map[string]string, s string) map[string]string {
	m = maps.Clone(m)
	maps.DeleteFunc(m, func(p, _ string) bool { return p == s || strings.HasPrefix(p, strings.TrimSuffix(s, "/")+"/") })
	return m
}

// with is one with another tree at a path.
func with(m map[string]string, s string, x api.Node) map[string]string {
	m = without(m, s)
	for p, v := range laid(x) {
		m[strings.TrimSuffix(s, "/")+strings.TrimSuffix(p, "/")] = v
	}
	if v, ok := m[""]; ok {
		delete(m, "")
		m["/"] = v
	}
	return m
}

// tried are the paths of a tree, and beside each one some that are not there.
func tried(n api.Node) []string {
	var l []string
	for s := range laid(n) {
		s = strings.TrimSuffix(s, "/")
		l = append(l, s+"/b", s+"/0", s+"/z", s+"/a")
		if s != "" {
			l = append(l, s)
		}
	}
	slices.Sort(l)
	return slices.Compact(l)
}

func isDir(m map[string]string, s string) bool {
	up := s[:strings.LastIndex(s, "/")]
	if up == "" {
		up = "/"
	}
	return m[up] == "dir "
}

func TestAlwaysPutIsGot(t *testing.T) {
	x := dir(kid("a", runs("x")), kid("c", link("/a")))
	for i := range 60 {
		d := draw(i)
		n := d.top()
		flat := laid(n)
		for _, s := range append(tried(n), "/") {
			y, err := path.Put(n, s, x)
			if s != "/" && !isDir(flat, s) {
				if err != api.ErrNone {
					t.Errorf("%d: put %s: %v", i, s, err)
				}
				continue
			}
			if err != nil || tree.Check(y) != nil || !maps.Equal(laid(y), with(flat, s, x)) {
				t.Errorf("%d: put %s: %v, %v", i, s, err, y)
			}
			gets(t, y, s, x)
		}
		if !maps.Equal(laid(n), flat) {
			t.Error(i, "changed")
		}
	}
}

func TestAlwaysDroppedIsNone(t *testing.T) {
	for i := range 60 {
		d := draw(i)
		n := d.top()
		flat := laid(n)
		for _, s := range tried(n) {
			x, missing := path.Get(n, s)
			y, err := path.Drop(n, s)
			if _, there := flat[s]; !there {
				if err != api.ErrNone || missing != api.ErrNone {
					t.Errorf("%d: drop %s: %v, %v", i, s, err, missing)
				}
				continue
			}
			if err != nil || missing != nil || tree.Check(y) != nil || !maps.Equal(laid(y), without(flat, s)) {
				t.Errorf("%d: drop %s: %v, %v", i, s, err, y)
			}
			getFails(t, "dropped", y, s, api.ErrNone)
			if back, err := path.Put(y, s, x); err != nil || !tree.Same(back, n) {
				t.Errorf("%d: put %s again: %v", i, s, err)
			}
		}
		if !maps.Equal(laid(n), flat) {
			t.Error(i, "changed")
		}
	}
}

// frame is a node that was gone into, with its path.
type frame struct {
	path string
	n    api.Node
}

// slowly follows by another way: with the nodes that it came through in a list,
// and a call of its own for each link.
func slowly(stack []frame, names []string, links *int) ([]frame, error) {
	for _, name := range names {
		if name == "" || name == "." {
			continue
		}
		if name == ".." {
			if len(stack) > 1 {
				stack = stack[:len(stack)-1]
			}
			continue
		}
		if !tree.Name(name) {
			return nil, api.ErrName
		}
		here := stack[len(stack)-1]
		i := slices.IndexFunc(here.n.Kids, func(k api.Kid) bool { return k.Name == name })
		if i < 0 {
			return nil, api.ErrNone
		}
		next := here.n.Kids[i].Node
		if next.Kind != "link" {
			stack = append(slices.Clone(stack), frame{strings.TrimSuffix(here.path, "/") + "/" + name, next})
			continue
		}
		if *links++; *links > api.MaxFollow {
			return nil, api.ErrDeep
		}
		if next.Data[0] == '/' {
			stack = stack[:1]
		}
		var err error
		if stack, err = slowly(stack, strings.Split(next.Data, "/"), links); err != nil {
			return nil, err
		}
	}
	return stack, nil
}

// What is followed is there, is no link, and is where it is when followed again.
func TestAlwaysFollowed(t *testing.T) {
	told := map[error]int{}
	for i := range 400 {
		d := draw(i)
		n := d.top()
		for _, s := range tried(n) {
			links := 0
			stack, want := slowly([]frame{{"/", n}}, strings.Split(s, "/"), &links)
			p, err := path.Follow(n, s)
			told[err]++
			if err != want || err != nil && p != "" {
				t.Errorf("%d: follow %s: %q, %v, want %v", i, s, p, err, want)
			}
			if err != nil || want != nil {
				continue
			}
			last := stack[len(stack)-1]
			if p != last.path {
				t.Errorf("%d: follow %s: %q, want %q", i, s, p, last.path)
			}
			gets(t, n, p, last.n)
			follows(t, "again", n, p, p)
		}
	}
	for _, err := range []error{nil, api.ErrNone, api.ErrName, api.ErrDeep} {
		if told[err] < 20 {
			t.Errorf("%v is told %d times: too few to try it", err, told[err])
		}
	}
}
