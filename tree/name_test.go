package tree_test

import (
	"strings"
	"testing"

	"stillroom/api"
	"stillroom/tree"
)

func TestNameTakes(t *testing.T) {
	for _, s := range []string{"a", "z", "0", "9", "-", "...", "....", ".a", "a.", "..a", "-.", "a.b-1", "abcdefghijkl", "mnopqrstuvwx", "yz0123456789", strings.Repeat(".", api.MaxName), bytes(api.MaxName)} {
		if !tree.Name(s) {
			t.Errorf("%q is a name", s)
		}
	}
}

func TestNameRefuses(t *testing.T) {
	for _, s := range []string{"", ".", "..", "A", "Z", "aB", "a b", " a", "a ", "a/b", "/", "a_b", "a\x00", "a\n", "é", "a\xff", "#a", "a:", "a,b", bytes(api.MaxName + 1), strings.Repeat(".", api.MaxName+1), bytes(5000)} {
		if tree.Name(s) {
			t.Errorf("%q is no name", s)
		}
	}
}

func TestNameByte(t *testing.T) {
	const good = "abcdefghijklmnopqrstuvwxyz0123456789-."
	for c := range 256 {
		s := string([]byte{byte(c)})
		want := strings.Contains(good, s)
		if tree.NameByte(byte(c)) != want {
			t.Errorf("%q: want %v", s, want)
		}
		for _, name := range []string{s + "a", "a" + s, "a" + s + "a"} {
			if tree.Name(name) != want {
				t.Errorf("%q: want %v", name, want)
			}
		}
	}
}
