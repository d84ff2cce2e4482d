package store_test

import (
	"fmt"
	"strings"
	"testing"

	"stillroom/api"
	"stillroom/disk"
	"stillroom/inode"
	"stillroom/pack"
)

func TestAdd(t *testing.T) {
	s := newStore(t, 20)
	n := dir(kid("a", file("hello")), kid("b", dir(kid("c", runs(long(20))), kid("d", link("../a")), kid("e", dir()))), kid("f", file("")))
	answers(t, s, add("lib", n), "ok", "list", "lib", "add app f1:x", "ok", "list", "lib app", "add a.b-9 l1:/", "ok", "list", "lib app a.b-9")
	packsAre(t, s, api.Pack{Name: "lib", Tree: n}, api.Pack{Name: "app", Tree: file("x")}, api.Pack{Name: "a.b-9", Tree: link("/")})
	statsAre(t, s,
		inode.Stat{Bytes: 5, Links: 1, Blocks: []int{0}, Sum: disk.Sum("hello")},
		inode.Stat{Bytes: 20, Links: 1, Exec: true, Blocks: []int{1, 2}, Sum: disk.Sum(long(20))},
		inode.Stat{Links: 1},
		inode.Stat{Bytes: 1, Links: 1, Blocks: []int{3}, Sum: disk.Sum("x")})
	answers(t, s, "free", "16", "saved", "0", "scan", "nothing", "roots", "nothing")
	holds(t, s.Tape(), records(add("lib", n), "add app f1:x", "add a.b-9 l1:/"))
	opens(t, s, 20)
}

// A tree goes to the line's end, whatever bytes it has.
func TestAddOfAnyBytes(t *testing.T) {
	s := newStore(t, 40)
	for i, data := range []string{" ", "  ", "\n", "a b", " a\nb ", "\n.", "1:a\n.", "add x f0:", "\x00\xff", "é", "ends with a blank ", "ends with a line\n"} {
		name := fmt.Sprint("n", i)
		line := "add " + name + fmt.Sprintf(" d1:1:ff%d:", len(data)) + data
		answers(t, s, line, "ok", "read "+name+" /f", data)
	}
	opens(t, s, 40)
}

func TestAddOfNoName(t *testing.T) {
	s := newStore(t, 9, "add a f0:")
	for _, name := range []string{"", ".", "..", "A", "aB", "a/b", "/", "a_b", "a\nb", "\x00", "é", strings.Repeat("x", api.MaxName+1), strings.Repeat("x", 30000)} {
		refuses(t, s, api.ErrName, "add "+name+" f0:")
	}
	longest := strings.Repeat("x", api.MaxName)
	answers(t, s, "add "+longest+" f0:", "ok", "add ... f0:", "ok", "add - f0:", "ok", "list", "a "+longest+" ... -")
}

func TestAddOfANameThatIsThere(t *testing.T) {
	s := newStore(t, 9, "add a f1:x", "add b f0:")
	refuses(t, s, api.ErrExist, "add a f1:y", "add a f1:x", "add b d0:")
	answers(t, s, "read a /", "x", "root b", "ok", "gc", "1", "add a f1:y", "ok", "list", "b a", "read a /", "y")
}

// pack.Read's errors, all of them.
func TestAddOfNoTree(t *testing.T) {
	s := newStore(t, 9, "add a f1:x")
	deep := func(n int, text string) string { return strings.Repeat("d1:1:d", n) + text }
	many := func(n int) string {
		text := fmt.Sprintf("d%d:", n)
		for i := range n {
			text += fmt.Sprintf("4:f%03df0:", i)
		}
		return text
	}
	for _, c := range []struct {
		text string
		want error
	}{
		{"", api.ErrText},
		{"f", api.ErrText},
		{"f1:xy", api.ErrText},
		{"f1:", api.ErrText},
		{"f01:x", api.ErrText},
		{"d1:1:a", api.ErrText},
		{"what", api.ErrText},
		{"f0: ", api.ErrText},
		{"f0:\n", api.ErrText},
		{" f0:", api.ErrText},
		{"l0:", api.ErrBound},
		{"l1: ", api.ErrText},
		{"f2001:" + strings.Repeat("x", 2001), api.ErrBound},
		{"l41:" + strings.Repeat("x", 41), api.ErrBound},
		{"d1:1:Af0:", api.ErrName},
		{"d2:1:bf0:1:af0:", api.ErrOrder},
		{deep(api.MaxDeep+1, "f0:"), api.ErrDeep},
		{many(api.MaxNodes), api.ErrFull},
		{"f1:" + strings.Repeat("x", api.MaxText), api.ErrBound},
		{strings.Repeat("x", api.MaxText+1), api.ErrBound},
	} {
		refuses(t, s, c.want, "add b "+c.text)
	}
	answers(t, s, "add b "+deep(api.MaxDeep, "f0:"), "ok", "add c "+many(api.MaxNodes-1), "ok", "list", "a b c")
}

// The bytes of a tree's text are bounded, not those of the line.
func TestAddOfALongText(t *testing.T) {
	var kids []api.Kid
	for i := range 4 {
		kids = append(kids, kid(fmt.Sprintf("file-%07d", i), file(long(api.MaxData))))
	}
	for i := range 195 {
		kids = append(kids, kid(fmt.Sprintf("link-%07d", i), link(strings.Repeat("x", api.MaxLink))))
	}
	n := dir(kids...)
	text := pack.Text(n)
	if len(text) < 19000 || len(text) > api.MaxText {
		t.Fatal(len(text))
	}
	s := newStore(t, api.MaxBlocks)
	answers(t, s, "add long "+text, "ok", "free", "12")
	packsAre(t, s, api.Pack{Name: "long", Tree: n})
	opens(t, s, api.MaxBlocks)
}

func TestRefs(t *testing.T) {
	s := newStore(t, 30,
		"add lib f1:x",
		"add self f9:#self #ap", // itself, and one that is not there
		"add ap l4:#lib",        // by a link
		"add two d2:1:af4:#lib1:bd1:1:cf3:#ap",
		"add twice f14:#two #two#two.",
		"add far f13:#lib,#ap,#aps", // ap begins aps
		"add aps f5:#far.",          // far. is another one
		"add far. f5:#far.")
	answers(t, s,
		"refs lib", "nothing", "refs self", "self", "refs ap", "lib", "refs two", "ap lib", "refs twice", "two",
		"refs far", "ap lib", "refs aps", "nothing", "refs far.", "far.")
	// What comes later is no Ref of what is there.
	answers(t, s, "add x f4:#new", "ok", "add new f2:#x", "ok", "refs x", "nothing", "refs new", "x", "users new", "nothing")
	opens(t, s, 30)
}

// A name of which another one begins with: each is mentioned as it is alone.
func TestRefsOfNamesThatBeginOthers(t *testing.T) {
	s := newStore(t, 9, "add a f0:", "add ab f0:", "add abc f0:", "add a.b f0:")
	answers(t, s,
		"add n1 f3:#ab", "ok", "refs n1", "ab",
		"add n2 f4:#abc", "ok", "refs n2", "abc",
		"add n3 f6:#a.b,a", "ok", "refs n3", "a.b",
		"add n4 f3:#a,", "ok", "refs n4", "a",
		"add n5 f5:#abcd", "ok", "refs n5", "nothing",
		"add n6 l7:#a/#abc", "ok", "refs n6", "a abc",
		"users a", "n4 n6", "users ab", "n1")
}

// What went is no Ref of what comes.
func TestRefsBehindGc(t *testing.T) {
	s := newStore(t, 9, "add a f0:", "add b f2:#a", "gc")
	answers(t, s, "list", "nothing", "add b f2:#a", "ok", "refs b", "nothing", "add a f2:#b", "ok", "refs a", "b", "list", "b a")
	opens(t, s, 9)
}

func TestMaxPacks(t *testing.T) {
	s := newStore(t, 1)
	l := names(api.MaxPacks)
	for _, name := range l {
		answers(t, s, "add "+name+" f0:", "ok")
	}
	answers(t, s, "list", strings.Join(l, " "))
	refuses(t, s, api.ErrFull, "add more f0:", "add more f1:x", "add more what", "add more ", "add more l0:")
	refuses(t, s, api.ErrName, "add More f0:")
	refuses(t, s, api.ErrExist, "add p00 f0:", "add p39 what")
	does(t, s, "root p07", "root p31", "gc")
	answers(t, s, "list", "p07 p31", "add more f1:x", "ok", "list", "p07 p31 more")
	opens(t, s, 1)
}

func TestMaxRefs(t *testing.T) {
	s := newStore(t, 40)
	l := names(api.MaxRefs + 1)
	for _, name := range l {
		does(t, s, "add "+name+" f0:")
	}
	most := "#" + strings.Join(l[:api.MaxRefs], " #")
	one := "#" + strings.Join(l, " #")
	self := "#" + strings.Join(l[1:], " #") + " #zz"
	answers(t, s, add("most", file(most)), "ok", "refs most", strings.Join(l[:api.MaxRefs], " "))
	refuses(t, s, api.ErrFull, add("more", file(one)), add("more", dir(kid("a", file(most)), kid("b", link("#p20")))))
	refuses(t, s, api.ErrFull, add("zz", file(self))) // its own counts too
	answers(t, s, add("yy", file(self)), "ok", "refs yy", strings.Join(l[1:], " "))
	// What is not there does not count.
	answers(t, s, add("xx", file(most+" #q1 #q2 #q3")), "ok", "refs xx", strings.Join(l[:api.MaxRefs], " "))
	opens(t, s, 40)
}

// Nothing changes: neither the files that would have had room, nor the blocks.
func TestAddWithNoRoomForItsLastFile(t *testing.T) {
	s := newStore(t, 4, "add a f1:x")
	refuses(t, s, api.ErrFull,
		add("b", dir(kid("a", file(long(16))), kid("b", file("")), kid("c", runs(long(17))), kid("d", file("x")))),
		add("b", file(long(3*api.BlockSize+1))),
		add("b", file(long(api.MaxData))))
	answers(t, s, "free", "3", "list", "a", "where 1", "nothing", "where 2", "nothing")
	answers(t, s, add("b", dir(kid("a", file("y")), kid("b", file(long(17))))), "ok", "free", "0", "where 1", "b/a")
	refuses(t, s, api.ErrFull, "add c f1:x")
	answers(t, s, "add c f0:", "ok", "add d d1:1:ll1:a", "ok")
	opens(t, s, 4)
}

// A name has a new tree, and a free number and its blocks go to the next file.
func TestAddAgain(t *testing.T) {
	s := newStore(t, 5, add("a", file(long(40))), "add b f1:y", "root b", "gc", "add a f1:x", "add c f1:z")
	answers(t, s, "list", "b a c", "where 0", "a/", "where 1", "b/", "where 2", "c/", "free", "2", "read a /", "x")
	statsAre(t, s,
		inode.Stat{Bytes: 1, Links: 1, Blocks: []int{0}, Sum: disk.Sum("x")},
		inode.Stat{Bytes: 1, Links: 1, Blocks: []int{3}, Sum: disk.Sum("y")},
		inode.Stat{Bytes: 1, Links: 1, Blocks: []int{1}, Sum: disk.Sum("z")})
	opens(t, s, 5)
}
