package refs_test

import (
	"fmt"
	"slices"
	"strings"
	"testing"

	"stillroom/api"
)

func TestCheckTakes(t *testing.T) {
	long := strings.Repeat("z", api.MaxName)
	for about, l := range map[string][]api.Pack{
		"nil":                        nil,
		"no packs":                   {},
		"one":                        list(pack("a")),
		"one that needs itself":      list(pack("a", "a")),
		"an empty list of Refs":      {{Name: "a", Refs: []string{}}},
		"sample":                     sample(),
		"names that fall":            list(pack("c"), pack("b", "c"), pack("a", "b", "c")),
		"itself the first":           list(pack("b"), pack("a", "a", "b")),
		"itself between":             list(pack("a"), pack("c"), pack("b", "a", "b", "c")),
		"itself the last":            list(pack("a"), pack("b", "a", "b")),
		"names that rise by bytes":   list(pack("-"), pack("..."), pack("0"), pack("a"), pack("a-"), pack("a.b"), pack("a0"), pack("aa"), pack("b", "-", "...", "0", "a", "a-", "a.b", "a0", "aa", "b")),
		"the longest name":           list(pack(long, long), pack("a", long)),
		"all that may be, alone":     alone(api.MaxPacks),
		"all that may be, as a row":  chain(api.MaxPacks),
		"MaxRefs":                    append(alone(api.MaxRefs), pack("z", count(api.MaxRefs)...)),
		"MaxRefs, itself among them": append(alone(api.MaxRefs-1), pack("z", append(count(api.MaxRefs-1), "z")...)),
		"MaxRefs of the last pack":   append(alone(api.MaxPacks-1), pack("z", append(count(api.MaxPacks - 1)[api.MaxPacks-api.MaxRefs:], "z")...)),
	} {
		checks(t, about, l)
	}
}

// All packs that may be, and all Refs that each of them may have.
func TestCheckTakesAllThatMayBe(t *testing.T) {
	l := alone(api.MaxPacks)
	for i := range l {
		l[i].Refs = count(i + 1)[max(0, i+1-api.MaxRefs):]
	}
	checks(t, "full", l)
	fails(t, "full, and one more", append(l, pack("z")), -1, api.ErrFull)
	last := &l[api.MaxPacks-1]
	last.Refs = count(api.MaxPacks)[api.MaxPacks-api.MaxRefs-1:]
	fails(t, "full, and one Ref more", l, api.MaxPacks-1, api.ErrFull)
}

// The bounds once more, by the numbers that the other tests take from api.
func TestCheckAtBounds(t *testing.T) {
	checks(t, "40 packs", alone(40))
	fails(t, "41 packs", alone(41), -1, api.ErrFull)
	checks(t, "20 Refs", append(alone(20), pack("z", count(20)...)))
	fails(t, "21 Refs", append(alone(21), pack("z", count(21)...)), 21, api.ErrFull)
}

func TestCheckTooManyPacks(t *testing.T) {
	fails(t, "one more", alone(api.MaxPacks+1), -1, api.ErrFull)
	fails(t, "many more", chain(999), -1, api.ErrFull)
	fails(t, "ahead of what is wrong in them", make([]api.Pack, api.MaxPacks+1), -1, api.ErrFull)
	fails(t, "ahead of a fault of the first", append(list(pack("A", "b", "a")), alone(api.MaxPacks)...), -1, api.ErrFull)
}

func TestCheckNames(t *testing.T) {
	for _, s := range []string{"", ".", "..", "A", "a b", "a/b", "a_", "é", "a\x00", "#a", strings.Repeat("x", api.MaxName+1)} {
		fails(t, s+" the first", list(pack(s), pack("b")), 0, api.ErrName)
		fails(t, s+" that needs itself", list(pack("a"), pack(s, s)), 1, api.ErrName)
		fails(t, s+" the last", append(alone(api.MaxPacks-1), pack(s)), api.MaxPacks-1, api.ErrName)
	}
}

func TestCheckNamesTwice(t *testing.T) {
	fails(t, "one behind the other", list(pack("a"), pack("a")), 1, api.ErrExist)
	fails(t, "one between", list(pack("a"), pack("b"), pack("a")), 2, api.ErrExist)
	fails(t, "three times", list(pack("b"), pack("a"), pack("a"), pack("a")), 2, api.ErrExist)
	fails(t, "that needs the other", list(pack("a"), pack("a", "a")), 1, api.ErrExist)
	l := alone(api.MaxPacks)
	l[api.MaxPacks-1].Name = l[0].Name
	fails(t, "the first and the last", l, api.MaxPacks-1, api.ErrExist)
}

func TestCheckTooManyRefs(t *testing.T) {
	itself := append(count(api.MaxRefs), "z")
	fails(t, "with itself", append(alone(api.MaxRefs), pack("z", itself...)), api.MaxRefs, api.ErrFull)
	fails(t, "not the last pack", append(alone(30), pack("z", count(api.MaxRefs+1)...), pack("zz")), 30, api.ErrFull)
	fails(t, "one over and over", list(pack("a", slices.Repeat(names("a"), api.MaxRefs+1)...)), 0, api.ErrFull)
}

func TestCheckOrder(t *testing.T) {
	ahead := list(pack("a"), pack("b"), pack("c"))
	for _, l := range [][]string{{"b", "a"}, {"a", "a"}, {"a", "b", "b"}, {"a", "c", "b"}, {"c", "b", "a"}, {"b", "c", "a"}, {"a", "b", "c", "a"}, {"d", "c"}, {"d", "d"}, {"a", "d", "c"}} {
		fails(t, strings.Join(l, " "), append(copyOf(ahead), pack("d", l...)), 3, api.ErrOrder)
	}
	fails(t, "itself twice", list(pack("a", "a", "a")), 0, api.ErrOrder)
	fails(t, "by bytes, not by length", list(pack("b"), pack("aa"), pack("c", "b", "aa")), 2, api.ErrOrder)
	fails(t, "MaxRefs times the same", list(pack("a", slices.Repeat(names("a"), api.MaxRefs)...)), 0, api.ErrOrder)
}

func TestCheckRefsOfNone(t *testing.T) {
	fails(t, "of nobody", list(pack("a", "q")), 0, api.ErrNone)
	fails(t, "of a later one", list(pack("a", "b"), pack("b")), 0, api.ErrNone)
	fails(t, "of one that needs it", list(pack("a", "b"), pack("b", "a")), 0, api.ErrNone)
	fails(t, "of a later one, between others", list(pack("a"), pack("c"), pack("d", "a", "b", "c"), pack("b")), 2, api.ErrNone)
	fails(t, "the first of them", list(pack("b"), pack("c", "a", "b", "c")), 1, api.ErrNone)
	fails(t, "the last of them", list(pack("a"), pack("b", "a", "b", "c")), 1, api.ErrNone)
	for _, s := range nones() {
		fails(t, fmt.Sprintf("%q", s), append(sample(), pack("x", s)), 6, api.ErrNone)
	}
}

// Of several faults the first pack's is told, and of one pack's the first in the
// order in which they are named.
func TestCheckTellsTheFirst(t *testing.T) {
	many := slices.Repeat(names("q"), api.MaxRefs+1)
	for i, c := range []struct {
		p    api.Pack
		want error
	}{
		{pack("", many...), api.ErrName},
		{pack("A", "q", "a"), api.ErrName},
		{pack("A", "q"), api.ErrName},
		{pack("a", many...), api.ErrExist},
		{pack("a", "q", "a"), api.ErrExist},
		{pack("a", "q"), api.ErrExist},
		{pack("b", many...), api.ErrFull},
		{pack("b", count(api.MaxRefs+1)...), api.ErrFull},
		{pack("b", "q", "a"), api.ErrOrder},
		{pack("b", "", "", "a"), api.ErrOrder},
		{pack("b", "a", "q"), api.ErrNone},
	} {
		for k := range 3 {
			l := append(list(pack("a")), alone(k)...)
			l = append(l, c.p)
			fails(t, c.want.Error(), l, k+1, c.want)
			// a later one's fault is named ahead, and does not count
			for _, p := range []api.Pack{pack(""), pack("a"), pack("c", many...), pack("c", "q", "a"), pack("c", "q")} {
				fails(t, c.want.Error(), append(copyOf(l), p), k+1, c.want)
			}
		}
		if t.Failed() {
			t.Fatal(i)
		}
	}
}

// Trees are not looked at, whatever they are.
func TestTreesAreNotLookedAt(t *testing.T) {
	l := sample()
	for i, n := range []api.Node{{}, {Kind: "what"}, {Kind: "file", Data: "#q #edit"}, {Kind: "link"}, {Kind: "dir", Data: "x", Exec: true}, endless()} {
		l[i].Tree = n
	}
	checks(t, "trees that are not well", l)
	closes(t, l, names("app"), "app lib tool")
	uses(t, l, "doc", "-x edit")
	dies(t, l, names("-x"), "edit app tool")
}

func TestNothingBehindALength(t *testing.T) {
	memory := list(pack("a"), pack("b", "a"), pack("A", "q"))
	hidden := names("a", "b", "q")
	memory[1].Refs = hidden[:1]
	l := memory[:2]
	checks(t, "hidden", l)
	closes(t, l, hidden[:2], "a b")
	closes(t, l, hidden[:0], "")
	uses(t, l, "b", "")
	uses(t, l, "a", "b")
	dies(t, l, hidden[:1], "b")
	if memory[2].Name != "A" || !slices.Equal(memory[2].Refs, names("q")) || !slices.Equal(hidden, names("a", "b", "q")) {
		t.Error("what lies behind a length is written:", memory, hidden)
	}
}
