package side_test

import (
	"fmt"
	"slices"
	"strings"
	"testing"

	"stillroom/api"
	"stillroom/side"
)

func TestTexts(t *testing.T) {
	writes(t, []api.Node{file("xy")}, "f2:xy")
	writes(t, []api.Node{
		file(""), runs("xy"), link("../a"), dir(),
		dir(kid("a", file("xy"))),
		dir(kid("-", link("b")), kid("a", dir(kid("b", runs("\x00\n:")))), kid("b.c", dir())),
	}, "f0:", "x2:xy", "l4:../a", "d0:", "d1:1:af2:xy", "d3:1:-l1:b1:ad1:1:bx3:\x00\n:3:b.cd0:")
}

func TestTextsOfNone(t *testing.T) {
	writes(t, nil)
	writes(t, []api.Node{})
}

// A tree is read whole, up to its bounds, and what is written may have more
// bytes than what is read.
func TestTextsOfGreatTrees(t *testing.T) {
	n := dir()
	for i := range 20 {
		n.Kids = append(n.Kids, kid(fmt.Sprintf("a%02d", i), file(long(api.MaxData))))
	}
	var s strings.Builder
	s.WriteString("d20:")
	for i := range 20 {
		fmt.Fprintf(&s, "3:a%02df2000:%s", i, long(api.MaxData))
	}
	wide199 := "d199:"
	for i := range 199 {
		wide199 += fmt.Sprintf("4:k%03df0:", i)
	}
	writes(t, []api.Node{n, wide(api.MaxNodes - 1), nested(api.MaxDeep)},
		s.String(), wide199, strings.Repeat("d1:1:a", api.MaxDeep)+"f0:")
}

// The same tree many times: each has its text.
func TestTextsOfTreesThatAreAlike(t *testing.T) {
	n := dir(kid("a", file("xy")))
	writes(t, slices.Repeat([]api.Node{n}, 40), slices.Repeat([]string{"d1:1:af2:xy"}, 40)...)
}

func TestTextsMeetTheirBound(t *testing.T) {
	for _, count := range []int{2, 15, 16, 17, 99, 100} {
		var want []string
		for i := range count {
			s := fmt.Sprint(i)
			want = append(want, fmt.Sprintf("f%d:%s", len(s), s))
		}
		writes(t, counted(count), want...)
	}
	for w := 1; w <= api.Workers; w++ {
		textsFail(t, counted(101), w, api.ErrBound)
		textsFail(t, make([]api.Node, 101), w, api.ErrBound) // none of which is well
		textsFail(t, counted(5000), w, api.ErrBound)
	}
}

// The number of workers is told ahead of all.
func TestTextsWorkers(t *testing.T) {
	for _, w := range wrongWorkers() {
		for _, l := range [][]api.Node{nil, {}, counted(1), counted(100), counted(101), make([]api.Node, 101), {{}}} {
			textsFail(t, l, w, api.ErrShape)
		}
	}
}

// Each of tree.Check's errors is told with its place.
func TestTextsNotWell(t *testing.T) {
	for _, c := range []struct {
		n    api.Node
		want error
	}{
		{api.Node{}, api.ErrKind},
		{api.Node{Kind: "File"}, api.ErrKind},
		{nested(api.MaxDeep + 1), api.ErrDeep},
		{wide(api.MaxNodes), api.ErrFull},
		{api.Node{Kind: "file", Kids: []api.Kid{kid("a", file(""))}}, api.ErrShape},
		{api.Node{Kind: "dir", Exec: true}, api.ErrShape},
		{file(long(api.MaxData + 1)), api.ErrBound},
		{link(""), api.ErrBound},
		{link("a b"), api.ErrText},
		{dir(kid("", file(""))), api.ErrName},
		{dir(kid("b", file("")), kid("a", file(""))), api.ErrOrder},
		{dir(kid("a", file("")), kid("b", dir(kid("c", link(""))))), api.ErrBound},
	} {
		notWell(t, []api.Node{c.n}, 0, c.want)
		for _, at := range []int{0, 1, 49, 98, 99} {
			l := counted(100)
			l[at] = c.n
			notWell(t, l, at, c.want)
		}
	}
}

// The first one in the list's order is told, also where a later one is met
// sooner, since the first one is the one that takes longest.
func TestTextsTheFirstIsTold(t *testing.T) {
	slow := dir()
	for i := range 100 {
		slow.Kids = append(slow.Kids, kid(fmt.Sprintf("a%03d", i), file(long(api.MaxData))))
	}
	slow.Kids = append(slow.Kids, kid("z", link("")))
	for _, places := range [][2]int{{0, 1}, {0, 99}, {1, 2}, {49, 50}, {48, 99}, {98, 99}} {
		l := counted(100)
		l[places[0]], l[places[1]] = slow, api.Node{}
		notWell(t, l, places[0], api.ErrBound)
		l[places[0]], l[places[1]] = api.Node{}, slow
		notWell(t, l, places[0], api.ErrKind)
	}
	notWell(t, make([]api.Node, 100), 0, api.ErrKind)
	for first := range 99 {
		l := counted(100)
		for i := first; i < 100; i++ {
			l[i] = dir(kid("A", file("")))
		}
		l[first] = link("\x7f")
		notWell(t, l, first, api.ErrText)
	}
}

// What is handed over is only read, and not behind its end.
func TestTextsOnlyRead(t *testing.T) {
	all := []api.Node{dir(kid("a", file("xy")), kid("b", link("a"))), file("z"), {}, {Kind: "behind"}}
	inner := all[0].Kids
	all[0].Kids = inner[:1]
	was := fmt.Sprint(all, inner)
	writes(t, all[:2], "d1:1:af2:xy", "f1:z")
	notWell(t, all[:3], 2, api.ErrKind)
	if now := fmt.Sprint(all, inner); now != was {
		t.Errorf("%s, was %s", now, was)
	}
}

// What is answered is new memory, and does not show what is changed later.
func TestTextsAreNewMemory(t *testing.T) {
	l := []api.Node{dir(kid("a", file("xy"))), file("z")}
	a, _ := side.Texts(l, 2)
	b, _ := side.Texts(l, 2)
	a[0] = "spoilt"
	_ = append(a[:1], "spoilt")
	l[1], l[0].Kids[0] = link("spoilt"), kid("spoilt", file("spoilt"))
	if !slices.Equal(b, []string{"d1:1:af2:xy", "f1:z"}) {
		t.Errorf("%q", b)
	}
	writes(t, l, "d1:6:spoiltf6:spoilt", "l6:spoilt")
}
