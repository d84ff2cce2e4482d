package tree_test

import (
	"errors"
	"strings"
	"testing"

	"stillroom/api"
	"stillroom/tree"
)

type checked struct {
	about string
	n     api.Node
	want  error
}

// check wants the very error: no chapter tells a place here, so it is bare.
func check(t *testing.T, l []checked) {
	t.Helper()
	for _, c := range l {
		if err := tree.Check(c.n); err != c.want {
			t.Errorf("%s: %v, want %v", c.about, err, c.want)
		}
		if c.want == nil {
			continue
		}
		if n := tree.Count(c.n); n != 0 {
			t.Errorf("%s: count %d of a tree that is not well", c.about, n)
		}
		if n := tree.Size(c.n); n != 0 {
			t.Errorf("%s: size %d of a tree that is not well", c.about, n)
		}
		if l := tree.Files(c.n); len(l) != 0 {
			t.Errorf("%s: files %q of a tree that is not well", c.about, l)
		}
	}
}

func TestCheckWell(t *testing.T) {
	check(t, []checked{
		{"an empty dir", dir(), nil},
		{"an empty file", file(""), nil},
		{"a file that runs", runs("x"), nil},
		{"a file of any bytes", file("\x00 \n\x7f\x80\xff"), nil},
		{"a link", link("a"), nil},
		{"a link's outermost bytes", link("!~"), nil},
		{"a link that goes nowhere", link("/../what#"), nil},
		{"each kind in dirs", sample(), nil},
		{"empty lists of kids", api.Node{Kind: "file", Kids: []api.Kid{}}, nil},
		{"an empty list of a link's", api.Node{Kind: "link", Data: "a", Kids: []api.Kid{}}, nil},
		{"names that rise by their bytes", dir(kid("-", dir()), kid(".a", dir()), kid("0", dir()), kid("10", dir()), kid("9", dir()), kid("a", dir()), kid("a-", dir()), kid("a.", dir()), kid("aa", dir()), kid("b", dir())), nil},
		{"one name in two dirs", dir(kid("a", dir(kid("z", file("")))), kid("b", dir(kid("a", file(""))))), nil},
	})
}

func TestCheckEdges(t *testing.T) {
	check(t, []checked{
		{"MaxName met", dir(kid(bytes(api.MaxName), file(""))), nil},
		{"MaxName past", dir(kid(bytes(api.MaxName+1), file(""))), api.ErrName},
		{"MaxDeep met by a file", under(api.MaxDeep, file("x")), nil},
		{"MaxDeep met by a dir", under(api.MaxDeep, dir()), nil},
		{"MaxDeep past by a file", under(api.MaxDeep+1, file("x")), api.ErrDeep},
		{"MaxDeep past by a dir", under(api.MaxDeep+1, dir()), api.ErrDeep},
		{"MaxDeep past by a link, in the last kid", behind(3, under(api.MaxDeep, link("a"))), api.ErrDeep},
		{"MaxNodes met", dir(files(api.MaxNodes - 1)...), nil},
		{"MaxNodes past", dir(files(api.MaxNodes)...), api.ErrFull},
		{"MaxNodes met over dirs", behind(api.MaxNodes-12, dir(files(10)...)), nil},
		{"MaxNodes past over dirs", behind(api.MaxNodes-12, dir(files(11)...)), api.ErrFull},
		{"MaxData met", file(bytes(api.MaxData)), nil},
		{"MaxData past", file(bytes(api.MaxData + 1)), api.ErrBound},
		{"MaxData met, runs", runs(bytes(api.MaxData)), nil},
		{"MaxData past, runs", runs(bytes(api.MaxData + 1)), api.ErrBound},
		{"MaxData met twice", dir(kid("a", file(bytes(api.MaxData))), kid("b", file(bytes(api.MaxData)))), nil},
		{"MaxLink met", link(bytes(api.MaxLink)), nil},
		{"MaxLink past", link(bytes(api.MaxLink + 1)), api.ErrBound},
		{"a link of one byte", link("x"), nil},
		{"a link of none", link(""), api.ErrBound},
	})
}

func TestCheckWrong(t *testing.T) {
	check(t, []checked{
		{"no kind", api.Node{}, api.ErrKind},
		{"a kind in capitals", api.Node{Kind: "Dir"}, api.ErrKind},
		{"a kind with more behind", api.Node{Kind: "file "}, api.ErrKind},
		{"another kind", api.Node{Kind: "pipe"}, api.ErrKind},
		{"a kid's kind", dir(kid("a", api.Node{Kind: "what"})), api.ErrKind},
		{"a file with kids", api.Node{Kind: "file", Kids: files(1)}, api.ErrShape},
		{"a dir with data", api.Node{Kind: "dir", Data: "x"}, api.ErrShape},
		{"a dir that runs", api.Node{Kind: "dir", Exec: true}, api.ErrShape},
		{"a link that runs", api.Node{Kind: "link", Data: "a", Exec: true}, api.ErrShape},
		{"a link with kids", api.Node{Kind: "link", Data: "a", Kids: files(1)}, api.ErrShape},
		{"a kid's shape", dir(kid("a", file("")), kid("b", api.Node{Kind: "dir", Exec: true})), api.ErrShape},
		{"no name", dir(kid("", file(""))), api.ErrName},
		{"a dot", dir(kid(".", file(""))), api.ErrName},
		{"two dots", dir(kid("..", file(""))), api.ErrName},
		{"a capital", dir(kid("a", file("")), kid("aA", file(""))), api.ErrName},
		{"a slash", under(3, dir(kid("a/b", file("")))), api.ErrName},
		{"a name twice", dir(kid("a", file("")), kid("a", file(""))), api.ErrOrder},
		{"names that fall", dir(kid("b", file("")), kid("a", file(""))), api.ErrOrder},
		{"the last names fall", dir(kid("a", file("")), kid("c", file("")), kid("b", file(""))), api.ErrOrder},
		{"a name ahead of its start", dir(kid("aa", file("")), kid("a", file(""))), api.ErrOrder},
		{"numbers do not rise as texts", dir(kid("9", file("")), kid("10", file(""))), api.ErrOrder},
		{"names fall deeper", under(2, dir(kid("b", file("")), kid("a", file("")))), api.ErrOrder},
	})
}

func TestCheckLinkBytes(t *testing.T) {
	for c := range 256 {
		want := api.ErrText
		if c >= 33 && c <= 126 {
			want = nil
		}
		s := string([]byte{byte(c)})
		for _, to := range []string{s, "a" + s, s + "a"} {
			if err := tree.Check(link(to)); err != want {
				t.Errorf("%q: %v, want %v", to, err, want)
			}
		}
	}
}

// Where several are so of one node.
func TestCheckFirstOfOne(t *testing.T) {
	bad := api.Node{Kind: "what", Data: bytes(3000), Exec: true, Kids: []api.Kid{kid("", api.Node{})}}
	over := api.MaxNodes - api.MaxDeep - 1 // so that the node that lies too deep is also one too many
	check(t, []checked{
		{"deep ahead of full", behind(over, under(api.MaxDeep, file(""))), api.ErrDeep},
		{"deep ahead of kind", under(api.MaxDeep+1, bad), api.ErrDeep},
		{"deep ahead of shape", under(api.MaxDeep+1, api.Node{Kind: "dir", Exec: true}), api.ErrDeep},
		{"deep ahead of bound", under(api.MaxDeep+1, link("")), api.ErrDeep},
		{"full ahead of kind", behind(api.MaxNodes-1, bad), api.ErrFull},
		{"full ahead of shape", behind(api.MaxNodes-1, api.Node{Kind: "dir", Exec: true}), api.ErrFull},
		{"full ahead of bound", behind(api.MaxNodes-1, link("")), api.ErrFull},
		{"full ahead of name", behind(api.MaxNodes-1, dir(kid("", file("")))), api.ErrFull},
		{"kind ahead of all behind it", bad, api.ErrKind},
		{"shape ahead of bound, file", api.Node{Kind: "file", Data: bytes(api.MaxData + 1), Kids: files(1)}, api.ErrShape},
		{"shape ahead of bound, link", api.Node{Kind: "link", Exec: true}, api.ErrShape},
		{"shape ahead of text", api.Node{Kind: "link", Data: " ", Kids: files(1)}, api.ErrShape},
		{"shape ahead of name, file", api.Node{Kind: "file", Kids: []api.Kid{kid("", file(""))}}, api.ErrShape},
		{"shape ahead of name, dir", api.Node{Kind: "dir", Exec: true, Kids: []api.Kid{kid("", file(""))}}, api.ErrShape},
		{"shape ahead of order", api.Node{Kind: "dir", Data: "x", Kids: []api.Kid{kid("b", file("")), kid("a", file(""))}}, api.ErrShape},
		{"no bound of a dir's data", api.Node{Kind: "dir", Data: bytes(api.MaxData + 1)}, api.ErrShape},
		{"bound ahead of text", link(strings.Repeat(" ", api.MaxLink+1)), api.ErrBound},
		{"name ahead of order", dir(kid("b", file("")), kid("a", file("")), kid("A", file(""))), api.ErrName},
	})
}

// Where several are so, of more nodes than one.
func TestCheckFirstOfMany(t *testing.T) {
	fall := dir(kid("b", file("")), kid("a", file("")))
	check(t, []checked{
		{"a dir's shape ahead of its kids", api.Node{Kind: "dir", Exec: true, Kids: []api.Kid{kid("a", api.Node{})}}, api.ErrShape},
		{"a dir's names ahead of its kids", dir(kid("a", api.Node{}), kid("", file(""))), api.ErrName},
		{"a dir's order ahead of its kids", dir(kid("b", api.Node{}), kid("a", link(""))), api.ErrOrder},
		{"names ahead of kids that lie too deep", under(api.MaxDeep, dir(kid("", file("")))), api.ErrName},
		{"order ahead of kids that lie too deep", under(api.MaxDeep, fall), api.ErrOrder},
		{"order ahead of kids that are too many", dir(append(files(api.MaxNodes), kid("a", file("")))...), api.ErrOrder},
		{"the first kid ahead of the second", dir(kid("a", link("")), kid("b", api.Node{})), api.ErrBound},
		{"the second kid's own is later", dir(kid("a", link(" ")), kid("b", link(""))), api.ErrText},
		{"what is behind the first kid ahead of the second", dir(kid("a", dir(kid("b", fall))), kid("b", api.Node{})), api.ErrOrder},
		{"the first kid ahead of what is behind the second", dir(kid("a", link("")), kid("b", fall)), api.ErrBound},
		{"too deep in the first ahead of the second", dir(kid("a", under(api.MaxDeep, dir())), kid("b", api.Node{})), api.ErrDeep},
		{"the first ahead of too deep in the second", dir(kid("a", api.Node{}), kid("b", under(api.MaxDeep, dir()))), api.ErrKind},
		{"the last that fits ahead of one too many", dir(append(files(api.MaxNodes-2), kid("y", link("")), kid("z", file("")))...), api.ErrBound},
		{"one too many ahead of the next", dir(append(files(api.MaxNodes), kid("z", link("")))...), api.ErrFull},
		{"too many ahead of too deep later", dir(append(files(api.MaxNodes), kid("z", under(api.MaxDeep, dir())))...), api.ErrFull},
		{"too deep ahead of too many later", dir(append([]api.Kid{kid("a", under(api.MaxDeep, dir()))}, files(api.MaxNodes)...)...), api.ErrDeep},
	})
}

// Node lists may share memory: then a tree is far greater than what it is made of.
func TestCheckEndsOnWideTrees(t *testing.T) {
	n := file("x")
	for range 100 {
		n = dir(kid("a", n), kid("b", n))
	}
	if err := tree.Check(n); err != api.ErrDeep {
		t.Error(err)
	}
	if tree.Count(n) != 0 || tree.Size(n) != 0 || len(tree.Files(n)) != 0 {
		t.Error("told")
	}
}

func TestCheckGivesNoPlace(t *testing.T) {
	var f *api.Fault
	if err := tree.Check(dir(kid("a", link("")))); errors.As(err, &f) {
		t.Error("a place is told")
	}
}
