package refs_test

import (
	"fmt"
	"reflect"
	"slices"
	"strings"
	"testing"

	"stillroom/api"
	"stillroom/refs"
)

func pack(name string, refs ...string) api.Pack { return api.Pack{Name: name, Refs: refs} }

func list(l ...api.Pack) []api.Pack { return l }

func names(l ...string) []string { return l }

// count is that many names that rise.
func count(n int) []string {
	var l []string
	for i := range n {
		l = append(l, fmt.Sprintf("p%03d", i))
	}
	return l
}

// alone are that many packs that need nothing.
func alone(n int) []api.Pack {
	var l []api.Pack
	for _, name := range count(n) {
		l = append(l, pack(name))
	}
	return l
}

// chain are that many packs, each of which needs the one ahead of it.
func chain(n int) []api.Pack {
	l := alone(n)
	for i := 1; i < n; i++ {
		l[i].Refs = names(l[i-1].Name)
	}
	return l
}

// sample has a pack that needs itself, one that is needed over others, one that
// nobody needs, and names that rise otherwise than the packs came.
func sample() []api.Pack {
	return list(
		pack("lib"),
		pack("tool", "lib", "tool"),
		pack("doc"),
		pack("app", "tool"),
		pack("edit", "app", "doc"),
		pack("-x", "doc", "lib"))
}

// copyOf shares no list with what it is made from.
func copyOf(l []api.Pack) []api.Pack {
	c := slices.Clone(l)
	for i := range c {
		c[i].Refs = slices.Clone(c[i].Refs)
	}
	return c
}

// only looks whether what is handed over is only read.
func only(t *testing.T, l []api.Pack, names []string, call func()) {
	t.Helper()
	was, said := copyOf(l), slices.Clone(names)
	call()
	for i := range l {
		if l[i].Name != was[i].Name || !slices.Equal(l[i].Refs, was[i].Refs) {
			t.Errorf("pack %d is %v, was %v", i, l[i], was[i])
		}
	}
	if !slices.Equal(names, said) {
		t.Errorf("names are %q, were %q", names, said)
	}
}

func checks(t *testing.T, about string, l []api.Pack) {
	t.Helper()
	only(t, l, nil, func() {
		if err := refs.Check(l); err != nil {
			t.Errorf("%s: %#v", about, err)
		}
	})
}

// fails wants an error of all calls, with its place; bare, if that is below 0.
func fails(t *testing.T, about string, l []api.Pack, at int, want error) {
	t.Helper()
	tell := func(call string, got []string, err error) {
		t.Helper()
		if at >= 0 {
			want := &api.Fault{At: at, Err: want}
			if !reflect.DeepEqual(err, error(want)) || len(got) > 0 {
				t.Errorf("%s: %s: %q, %#v, want %#v", about, call, got, err, want)
			}
		} else if err != want || len(got) > 0 {
			t.Errorf("%s: %s: %q, %#v, want %v", about, call, got, err, want)
		}
	}
	only(t, l, nil, func() {
		tell("Check", nil, refs.Check(l))
		asked := names("q-is-none")
		if len(l) > 0 {
			asked = append(asked, l[0].Name)
		}
		for _, names := range [][]string{nil, asked, asked[1:]} {
			got, err := refs.Closure(l, names)
			tell("Closure", got, err)
			got, err = refs.Dead(l, names)
			tell("Dead", got, err)
		}
		for _, name := range append(asked, "") {
			got, err := refs.Users(l, name)
			tell("Users", got, err)
		}
	})
}

// closes wants a closure, told as names with a blank between.
func closes(t *testing.T, l []api.Pack, of []string, want string) {
	t.Helper()
	only(t, l, of, func() {
		got, err := refs.Closure(l, of)
		if strings.Join(got, " ") != want || err != nil {
			t.Errorf("Closure(%q): %q, %v, want %s", of, got, err, want)
		}
	})
}

func uses(t *testing.T, l []api.Pack, name, want string) {
	t.Helper()
	only(t, l, nil, func() {
		got, err := refs.Users(l, name)
		if strings.Join(got, " ") != want || err != nil {
			t.Errorf("Users(%q): %q, %v, want %s", name, got, err, want)
		}
	})
}

func dies(t *testing.T, l []api.Pack, roots []string, want string) {
	t.Helper()
	only(t, l, roots, func() {
		got, err := refs.Dead(l, roots)
		if strings.Join(got, " ") != want || err != nil {
			t.Errorf("Dead(%q): %q, %v, want %s", roots, got, err, want)
		}
	})
}

// nones are no names of the sample's packs.
func nones() []string {
	return names("", "q", "li", "libs", "Lib", "lib ", " lib", "lib\x00", "#lib", ".", "..", "/", strings.Repeat("x", api.MaxName+1), strings.Repeat("x", 5000), "\xff")
}

// endless is a dir that is its own kid: a look at all of it would not end.
func endless() api.Node {
	kids := make([]api.Kid, 1)
	kids[0] = api.Kid{Name: "a", Node: api.Node{Kind: "dir", Kids: kids}}
	return api.Node{Kind: "dir", Kids: kids}
}

// draw makes numbers from a number alone, so that each run sees the same ones.
type draw uint32

func (d *draw) below(n int) int {
	*d = *d*1664525 + 1013904223
	return int(*d>>16) % n
}
