package script_test

import (
	"fmt"
	"slices"
	"strings"
	"sync"
	"testing"

	"stillroom/api"
	"stillroom/script"
)

// draw makes scripts from a number alone, so that each run sees the same ones.
type draw uint32

func (r *draw) below(n int) int {
	*r = *r*1664525 + 1013904223
	return int(*r>>16) % n
}

func (r *draw) one(l ...string) string { return l[r.below(len(l))] }

func (r *draw) name() string { return r.one("a", "b", "c", "c-", "d") }

// data are often alike, and often mention names.
func (r *draw) data() string {
	return r.one("", "x", "x", "x", "y z", "\n.", long(17), long(40), "#"+r.name(), "#"+r.name()+" #"+r.name())
}

func (r *draw) node(deep int) api.Node {
	switch r.below(7) {
	case 0, 1:
		return link(r.one("a", "../b", "/a/b", "b/.", "..", "/", "q", "#"+r.name(), "A"))
	case 2:
		return file(r.data())
	case 3:
		return runs(r.data())
	}
	n := dir()
	for _, name := range []string{"a", "b", "c"} {
		if deep > 0 && r.below(3) > 0 {
			n.Kids = append(n.Kids, kid(name, r.node(deep-1)))
		}
	}
	return n
}

// path is often one of a tree that node makes.
func (r *draw) path() string {
	return r.one("/", "/a", "/b", "/a/a", "/a/b", "/b/a", "/c/c", "/a/a/a", "/b/c/a", "/q", "a", "//", "/..", "")
}

// line is any that is made as it should be, and often one with an error.
func (r *draw) line() string {
	switch r.below(28) {
	case 0, 1:
		return add(r.name(), r.node(4))
	case 2, 3, 4, 5:
		return add(r.name(), dir(kid("a", r.node(2)), kid(r.one("b", "c"), r.node(1))))
	case 6, 7:
		return "root " + r.name()
	case 8:
		return "unroot " + r.name()
	case 9:
		return r.one("opt", "gc")
	case 10, 11:
		return fmt.Sprintf("rot %d %d", r.below(10), r.below(3))
	case 12, 13, 14:
		return fmt.Sprintf("mend %d %s", r.below(5), r.data())
	case 15:
		return cut(r.below(60))
	case 16, 17:
		return "again"
	case 18, 19, 20:
		return "diff " + r.name() + " " + r.name()
	case 21, 22:
		return "follow " + r.name() + " " + r.path()
	case 23, 24:
		return "files " + r.name()
	case 25:
		return "size " + r.name()
	}
	return r.one("list", "roots", "scan", "free", "saved", "where 0", "where 3", "need "+r.name(), "users "+r.name(), "read "+r.name()+" "+r.path())
}

func (r *draw) script(count int) []string {
	var l []string
	for range count {
		l = append(l, r.line())
	}
	return l
}

// about is a line's word, and the first of what it has for an answer.
func about(line, answer string) string {
	word, _, _ := strings.Cut(line, " ")
	if strings.HasPrefix(answer, "/") {
		return word + " /"
	}
	first, _, _ := strings.Cut(strings.TrimPrefix(answer, "stillroom: "), ":")
	return word + " " + first
}

// Each line has the answer that it has by the words of the document.
func TestAlwaysByTheDocument(t *testing.T) {
	var r draw = 160
	seen := map[string]int{}
	for range 120 {
		lines := r.script(api.MaxScript)
		got := run(t, lines...)
		s := &slow{t: t, left: -1}
		for i, line := range lines {
			if want := s.play(line); got[i] != want {
				t.Fatalf("line %d, %.60q: %.200q, want %.200q, in %q", i, line, got[i], want, lines)
			}
			seen[about(line, got[i])]++
		}
	}
	for _, about := range []string{
		"cut ok", "cut off", "again ok", "add ok", "add off", "root off", "rot ok", "mend ok", "gc off",
		"diff add", "diff drop", "diff edit", "diff nothing", "diff none", "diff sum",
		"follow /", "follow none", "follow sum", "follow name", "files /", "files nothing", "files none", "files sum", "size none", "size sum",
	} {
		if seen[about] < 10 {
			t.Errorf("%q is seen %d times: draw others", about, seen[about])
		}
	}
}

func TestAlwaysTheSame(t *testing.T) {
	var r draw = 161
	for range 200 {
		lines := r.script(r.below(api.MaxScript + 1))
		was := run(t, lines...)
		run(t, r.script(r.below(20))...) // another one in between
		for range 3 {
			if now := run(t, lines...); !slices.Equal(now, was) {
				t.Fatalf("%q\nwas\n%q, of\n%q", now, was, lines)
			}
		}
		// A line hangs on those ahead of it alone.
		n := r.below(len(lines) + 1)
		if now := run(t, lines[:n]...); !slices.Equal(now, was[:n]) {
			t.Fatalf("%q\nwas\n%q, of\n%q", now, was[:n], lines[:n])
		}
	}
}

// Wherever the store is opened anew, all lines behind it have the answers that
// they had: where no power fails.
func TestAlwaysAgainChangesNothing(t *testing.T) {
	var r draw = 162
	for range 60 {
		lines := slices.DeleteFunc(r.script(api.MaxScript/2), func(s string) bool { return strings.HasPrefix(s, "cut ") })
		was := run(t, lines...)
		for at := range len(lines) + 1 {
			now := run(t, slices.Insert(slices.Clone(lines), at, "again")...)
			if now[at] != "ok" || !slices.Equal(slices.Delete(now, at, at+1), was) {
				t.Fatalf("again at %d:\n%q\nwas\n%q, of\n%q", at, now, was, lines)
			}
		}
	}
}

// Many at once: none sees another.
func TestAlwaysManyAtOnce(t *testing.T) {
	var r draw = 163
	for range 10 {
		one, other := r.script(api.MaxScript), r.script(api.MaxScript)
		wantOne, wantOther := run(t, one...), run(t, other...)
		var calls sync.WaitGroup
		for range 8 {
			calls.Go(func() {
				if got, err := script.Run(one); err != nil || !slices.Equal(got, wantOne) {
					t.Errorf("%q, %v, was\n%q", got, err, wantOne)
				}
			})
			calls.Go(func() {
				if got, err := script.Run(other); err != nil || !slices.Equal(got, wantOther) {
					t.Errorf("%q, %v, was\n%q", got, err, wantOther)
				}
			})
		}
		calls.Wait()
	}
}

// Lines of pieces that belong nowhere: each has an answer, and the same one
// again.
func TestAlwaysOfAnyLines(t *testing.T) {
	var r draw = 164
	for range 300 {
		var lines []string
		for range api.MaxScript {
			line := r.one("cut", "again", "diff", "follow", "files", "size", "add", "mend", "rot", "read", "")
			for range r.below(5) {
				line += r.one(" ", " ", " ", "  ", "a", "b", "/", "/a", "0", "7", "-1", "999999", "\n", "\x00", "\xff", "é", "f1:x", "d0:")
			}
			lines = append(lines, line)
		}
		was := run(t, lines...)
		if now := run(t, lines...); !slices.Equal(now, was) {
			t.Fatalf("%q\nwas\n%q, of\n%q", now, was, lines)
		}
	}
}
