package scan_test

import (
	"fmt"
	"reflect"
	"slices"
	"testing"

	"stillroom/api"
	"stillroom/scan"
	"stillroom/tree"
)

// sample mentions names in files and links, at more than one place, some twice.
func sample() api.Node {
	return dir(
		kid("a", file("see #lib, #doc.")),
		kid("app", dir()),
		kid("b", dir(
			kid("a", runs("#tool\n#lib\n")),
			kid("b", dir(kid("a", file("")), kid("b", link("/#edit/x")))),
			kid("c", link("../#lib")))),
		kid("tools", file("tools, # tools, #toolsx")))
}

// under lays a node that many dirs deep.
func under(dirs int, n api.Node) api.Node {
	for range dirs {
		n = dir(kid("d", n))
	}
	return n
}

func TestRefs(t *testing.T) {
	all := names("tool", "lib", "edit", "doc", "doc.", "app", "tools", "toolsx", "lib")
	needs(t, "sample", sample(), all, "doc. edit lib tool toolsx")
	needs(t, "sample", sample(), names("lib"), "lib")
	needs(t, "sample", sample(), names("app", "doc", "tools"), "")
	for _, name := range names("doc.", "edit", "lib", "tool", "toolsx") {
		needs(t, name, sample(), names(name), name)
	}
}

func TestRefsAtTheTop(t *testing.T) {
	of := names("b", "a", "a.b")
	needs(t, "file", file("#a #b"), of, "a b")
	needs(t, "file that runs", runs("#a.b"), of, "a.b")
	needs(t, "file of no bytes", file(""), of, "")
	needs(t, "file with no mention", file("a b # a"), of, "")
	needs(t, "link", link("#a"), of, "a")
	needs(t, "link", link("../#a/#b"), of, "a b")
	needs(t, "link with no mention", link("/a"), of, "")
	needs(t, "dir with no kids", dir(), of, "")
}

func TestRefsInDirs(t *testing.T) {
	of := names("a", "b", "c")
	needs(t, "file", dir(kid("x", file("#a"))), of, "a")
	needs(t, "link", dir(kid("x", link("#a"))), of, "a")
	needs(t, "each kind", dir(kid("x", link("#c")), kid("y", dir(kid("x", file("#a")))), kid("z", runs("#b"))), of, "a b c")
	needs(t, "the same twice", dir(kid("x", file("#a")), kid("y", file("#a"))), of, "a")
	needs(t, "deep", under(api.MaxDeep, file("#b")), of, "b")
	needs(t, "deep", under(api.MaxDeep, link("#c")), of, "c")
	var kids []api.Kid
	for i := range api.MaxNodes - 1 {
		kids = append(kids, kid(fmt.Sprintf("f%03d", i), file("")))
	}
	kids[api.MaxNodes-2].Node.Data = "#b"
	needs(t, "the last of MaxNodes", dir(kids...), of, "b")
}

// A name of a dir's kid is no mention, and a mention ends with its file.
func TestRefsOfEachFileAlone(t *testing.T) {
	of := names("a", "ab", "b")
	needs(t, "kids' names", dir(kid("a", file("a")), kid("b", dir())), of, "")
	needs(t, "split over two", dir(kid("x", file("#")), kid("y", file("a"))), of, "")
	needs(t, "not one word", dir(kid("x", file("#a")), kid("y", file("b"))), of, "a")
	needs(t, "ahead of a name", dir(kid("a", file("#")), kid("b", file("#"))), of, "")
}

func TestRefsOfFullData(t *testing.T) {
	full := bytes(api.MaxData-2) + "#a"
	needs(t, "full", file(full), names("a"), "a")
	needs(t, "one more", file("x"+full), names("a"), "")
	to := bytes(api.MaxLink-2) + "#a"
	needs(t, "full link", link(to), names("a"), "a")
	needs(t, "one more in a link", link("x"+to), names("a"), "")
}

func TestRefsOfNoNames(t *testing.T) {
	for _, n := range []api.Node{sample(), file("#a"), link("#a"), dir(), {}} {
		needs(t, "no names", n, nil, "")
		needs(t, "no names", n, []string{}, "")
	}
}

func TestRefsOfWhatIsNoName(t *testing.T) {
	for _, s := range nones() {
		if n := dir(kid("x", file("#"+s+" #ok")), kid("y", file("#ok"))); tree.Check(n) == nil {
			needs(t, "none", n, names(s), "")
			needs(t, "none", n, names(s, "ok", s), "ok")
		}
	}
}

// Of a tree that is not well nothing is told, wherever the fault is.
func TestRefsOfWhatIsNotWell(t *testing.T) {
	good := kid("a", file("#a"))
	var many []api.Kid
	for i := range api.MaxNodes {
		many = append(many, kid(fmt.Sprintf("f%03d", i), file("#a")))
	}
	around := make([]api.Kid, 2)
	around[0], around[1] = good, kid("b", api.Node{Kind: "dir", Kids: around})
	for i, n := range []api.Node{
		{},
		{Data: "#a"},
		{Kind: "File", Data: "#a"},
		{Kind: "dir", Data: "#a"},
		{Kind: "dir", Exec: true, Kids: []api.Kid{good}},
		{Kind: "file", Data: "#a", Kids: []api.Kid{good}},
		{Kind: "link", Data: "#a", Kids: []api.Kid{good}},
		{Kind: "link", Data: "#a", Exec: true},
		link("#a b"),
		file("#a" + bytes(api.MaxData)),
		dir(kid("", file("#a"))),
		dir(kid("#a", file("#a"))),
		dir(good, good),
		dir(kid("b", file("#a")), good),
		dir(good, kid("b", link(""))),
		dir(good, kid("b", dir(kid("c", api.Node{})))),
		dir(many...),
		under(api.MaxDeep+1, file("#a")),
		under(300, file("#a")),
		{Kind: "dir", Kids: around},
	} {
		needs(t, fmt.Sprint("not well ", i), n, names("a"), "")
	}
}

func TestRefsOnlyReads(t *testing.T) {
	n, of := sample(), names("tool", "lib")
	a, b := scan.Refs(n, of), scan.Refs(n, of)
	a[0], a[1] = "spoilt", "spoilt"
	if !slices.Equal(b, names("lib", "tool")) || !reflect.DeepEqual(n, sample()) {
		t.Error("memory is shared, or written:", b)
	}
	of = names("lib", "tool")
	needs(t, "behind the length", n, of[:1], "lib")
	kids := []api.Kid{kid("a", file("#a")), kid("b", file("#b"))}
	needs(t, "behind the length of kids", dir(kids[:1]...), names("a", "b"), "a")
	needs(t, "behind no kids", api.Node{Kind: "file", Kids: kids[:0]}, names("a", "b"), "")
}
