package pack_test

import (
	"strings"
	"testing"

	"stillroom/api"
	"stillroom/pack"
	"stillroom/tree"
)

// wells are trees that are well, most of them drawn, each of them once.
func wells() []api.Node {
	var l []api.Node
	seen := map[string]bool{}
	add := func(n api.Node) {
		if s := pack.Text(n); !seen[s] {
			seen[s] = true
			l = append(l, n)
		}
	}
	for _, c := range texts() {
		add(c.n)
	}
	for i := range 300 {
		d := draw(i)
		add(d.node(4))
	}
	return l
}

func TestAlwaysReadAsWritten(t *testing.T) {
	l := wells()
	for i, n := range l {
		s := pack.Text(n)
		if s == "" {
			t.Fatal(i, "no text")
		}
		if back, err := pack.Read(s); err != nil || !tree.Same(back, n) {
			t.Error(i, "not read as written:", err)
		}
		next := pack.Text(l[(i+1)%len(l)])
		if len(s)+len(next) > api.MaxText {
			continue
		}
		if back, rest, err := pack.First(s + next); err != nil || !tree.Same(back, n) || rest != next {
			t.Error(i, "not read as written ahead of another one:", err)
		}
	}
}

func TestAlwaysNoTextBeginsAnother(t *testing.T) {
	l := wells()
	for i, a := range l {
		for k, b := range l {
			if strings.HasPrefix(pack.Text(a), pack.Text(b)) != (i == k) {
				t.Error(i, k, "one text begins the other")
			}
		}
	}
}

// What is read has just the text that it was read from: so there's one text of a tree.
func TestAlwaysOneText(t *testing.T) {
	_, s := sample()
	for i := range len(s) {
		for c := range 256 {
			other := []string{
				s[:i] + string([]byte{byte(c)}) + s[i+1:],
				s[:i] + string([]byte{byte(c)}) + s[i:],
				s[:i] + s[i+1:],
			}
			for _, s := range other {
				oneText(t, s)
			}
		}
	}
}

func oneText(t *testing.T, s string) {
	t.Helper()
	n, err := pack.Read(s)
	if err == nil && pack.Text(n) != s {
		t.Errorf("%q is read, but is not the text of what it is", s)
	}
	if err != nil && !tree.Same(n, api.Node{}) {
		t.Errorf("%q: a node with its error", s)
	}
	m, rest, err := pack.First(s)
	if err == nil && pack.Text(m)+rest != s {
		t.Errorf("%q: its first tree and what is behind it are not all of it", s)
	}
	if err != nil && (!tree.Same(m, api.Node{}) || rest != "") {
		t.Errorf("%q: an answer with its error", s)
	}
}
