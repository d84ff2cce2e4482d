package script_test

import (
	"fmt"
	"strings"
	"testing"

	"stillroom/api"
)

func TestFilesAndSize(t *testing.T) {
	for _, c := range []struct {
		n           api.Node
		files, size string
	}{
		{file(""), "/", "0 1"},
		{file("xyz"), "/", "3 1"},
		{runs("x"), "/", "1 1"},
		{file(long(1024)), "/", "1024 1"},
		{link("x"), "nothing", "0 1"},
		{link("a/b"), "nothing", "0 1"},
		{dir(), "nothing", "0 1"},
		{dir(kid("a", dir()), kid("b", link("c"))), "nothing", "0 3"},
		{dir(kid("a", file("x")), kid("b", link("a")), kid("c", runs("yz"))), "/a /c", "3 4"},
		{dir(kid("a", dir(kid("z", file("1")))), kid("b", file("22")), kid("c", dir(kid("a", dir(kid("a", file("333"))))))), "/a/z /b /c/a/a", "6 7"},
		{nested(api.MaxDeep, file("x")), strings.Repeat("/a", api.MaxDeep), "1 9"},
	} {
		lines := []string{add("p", c.n)}
		behind(t, lines, "files p", c.files, "size p", c.size, "again", "ok", "files p", c.files, "size p", c.size)
	}
}

func TestFilesAndSizeOfMany(t *testing.T) {
	var l []string
	for i := range api.MaxNodes - 1 {
		l = append(l, fmt.Sprintf("/k%03d", i))
	}
	behind(t, []string{add("p", wide(api.MaxNodes-1))}, "files p", strings.Join(l, " "), "size p", "0 200", "opt", "198", "size p", "0 200")
}

// Each pack by itself: what rotted of one does not matter to another one, but to
// those that share the inode.
func TestFilesAndSizeOfWhatRotted(t *testing.T) {
	lines := []string{
		add("p", dir(kid("a", file("one")), kid("b", file(long(17))))),
		add("q", dir(kid("c", file("two")))),
		add("r", dir(kid("d", runs("one")), kid("e", file("one")))),
	}
	behind(t, lines, "rot 2 5", "ok", "files p", sumError, "size p", sumError, "files q", "/c", "size q", "3 2", "files r", "/d /e", "size r", "6 3",
		"mend 1 "+long(17), "ok", "files p", "/a /b", "size p", "20 3")
	behind(t, lines, "opt", "1", "rot 0 0", "ok", "files p", sumError, "size r", sumError, "files q", "/c", "mend 0 one", "ok", "files r", "/d /e", "size p", "20 3")
	behind(t, lines, "rot 0 9", "ok", "opt", "0", "rot 9 0", "ok", "size p", sumError, "size q", "3 2", "size r", "6 3")
	// A file of no bytes stands in no block, and a link neither.
	behind(t, []string{add("p", dir(kid("a", file("")), kid("b", link("a"))))}, "rot 0 0", "ok", "files p", "/a", "size p", "0 3")
}
