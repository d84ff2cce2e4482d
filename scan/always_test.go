package scan_test

import (
	"slices"
	"strings"
	"testing"

	"stillroom/api"
	"stillroom/scan"
	"stillroom/tree"
)

// some names, of which each begins another one, or is begun by one.
func some() []string { return names("a", "aa", "a.b", "a-", "b", "ba", "...", "abcdefghijkl") }

// text draws marks, names and other bytes, so close that most texts mention some.
func (d *draw) text(parts int) string {
	var b strings.Builder
	for range d.below(parts + 1) {
		switch d.below(4) {
		case 0:
			b.WriteString(d.one(names("#", "##", " ", ".", "a", "\x00", "\xff", "B", "é", "/")))
		case 1:
			b.WriteString(d.one(some()))
		default:
			b.WriteString("#" + d.one(some()))
		}
	}
	return b.String()
}

// ask draws names: some twice, in any order, some that are none.
func (d *draw) ask() []string {
	var l []string
	for range d.below(12) {
		l = append(l, d.one(append(some(), "", ".", "..", "A", "a b", "q")))
	}
	return l
}

func noNameByte() []string {
	var l []string
	for c := range 256 {
		if s := string([]byte{byte(c)}); !strings.Contains(nameBytes, s) {
			l = append(l, s)
		}
	}
	return l
}

// mentioned tells a mention by the words of the document: each place by itself.
func mentioned(s, name string) bool {
	for i := range len(s) {
		rest, is := strings.CutPrefix(s[i:], "#"+name)
		if is && (rest == "" || !strings.Contains(nameBytes, rest[:1])) {
			return true
		}
	}
	return false
}

func slowly(s string, of []string) []string {
	l := slices.DeleteFunc(slices.Clone(of), func(name string) bool { return !tree.Name(name) || !mentioned(s, name) })
	slices.Sort(l)
	return slices.Compact(l)
}

// P120.
func TestAlwaysFind(t *testing.T) {
	found := 0
	for i := range 20000 {
		d := draw(i)
		s, of := d.text(12), d.ask()
		want := slowly(s, of)
		found += len(want)
		finds(t, s, of, strings.Join(want, " "))
		if t.Failed() {
			t.Fatal(i)
		}
	}
	if found < 10000 {
		t.Error("too few mentions to try it:", found)
	}
}

// tree draws a tree, and tells the texts that stand in it.
func (d *draw) tree(deep int, texts *[]string) api.Node {
	switch kind := d.below(3); {
	case kind == 0:
		to := "/" + d.one(names("#", "", "#"+d.one(some())))
		*texts = append(*texts, to)
		return link(to)
	case kind == 1 || deep == 0:
		s := d.text(6)
		*texts = append(*texts, s)
		return file(s)
	}
	n := dir()
	for i := range d.below(4) {
		n.Kids = append(n.Kids, kid(string(rune('a'+i)), d.tree(deep-1, texts)))
	}
	return n
}

func TestAlwaysRefs(t *testing.T) {
	for i := range 5000 {
		d := draw(i)
		var texts []string
		n, of := d.tree(3, &texts), d.ask()
		if tree.Check(n) != nil {
			t.Fatal(i, "is not well")
		}
		var want []string
		for _, s := range texts {
			want = append(want, slowly(s, of)...)
		}
		slices.Sort(want)
		needs(t, "drawn", n, of, strings.Join(slices.Compact(want), " "))
		if t.Failed() {
			t.Fatal(i)
		}
	}
}

// P122: a longer text mentions no fewer, if it goes on with a byte that no name
// has.
func TestAlwaysLonger(t *testing.T) {
	ends := noNameByte()
	more := 0
	for i := range 20000 {
		d := draw(i)
		s := d.text(6)
		was := scan.Find(s, some())
		now := scan.Find(s+d.one(ends)+d.text(4), some())
		for _, name := range was {
			if !slices.Contains(now, name) {
				t.Fatalf("%d: %q mentions %s, and longer not", i, s, name)
			}
		}
		more += len(now) - len(was)
	}
	if more < 1000 {
		t.Error("too few mentions to try it:", more)
	}
}

// P122: what was turned has no mention of what it was; what it is now is
// mentioned where one of the two was; all others are as they were.
func TestAlwaysTurned(t *testing.T) {
	turned, back := 0, 0
	for i := range 20000 {
		d := draw(i)
		s, from, to := d.text(12), d.one(some()), d.one(some())
		got, err := scan.Turn(s, from, to)
		if err != nil {
			t.Fatal(i, err)
		}
		if from == to {
			turns(t, s, from, to, s)
			continue
		}
		others := func(name string) bool { return name == from || name == to }
		want := slices.DeleteFunc(scan.Find(s, some()), others)
		if mentioned(s, from) || mentioned(s, to) {
			want = append(want, to)
		}
		slices.Sort(want)
		finds(t, got, some(), strings.Join(want, " "))
		if mentioned(s, from) && got != s {
			turned++
		} else if mentioned(s, from) || got != s {
			t.Errorf("%d: Turn(%q, %q, %q): %q", i, s, from, to, got)
		}
		// Turned back it is as it was, where the new name was not mentioned.
		if !mentioned(s, to) {
			turns(t, got, to, from, s)
			back++
		}
		if t.Failed() {
			t.Fatal(i)
		}
	}
	if turned < 2000 || back < 2000 {
		t.Error("too few turns to try it:", turned, back)
	}
}
