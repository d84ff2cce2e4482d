package refs_test

import (
	"slices"
	"strings"
	"testing"

	"stillroom/api"
	"stillroom/refs"
)

func TestClosure(t *testing.T) {
	l := sample()
	closes(t, l, names("lib"), "lib")
	closes(t, l, names("tool"), "lib tool")
	closes(t, l, names("doc"), "doc")
	closes(t, l, names("app"), "app lib tool")
	closes(t, l, names("edit"), "app doc edit lib tool")
	closes(t, l, names("-x"), "-x doc lib")
	closes(t, l, names("app", "doc"), "app doc lib tool")
	closes(t, l, names("-x", "app"), "-x app doc lib tool")
	closes(t, l, names("-x", "edit"), "-x app doc edit lib tool")
}

func TestClosureOfNoNames(t *testing.T) {
	for _, l := range [][]api.Pack{nil, {}, alone(1), sample(), chain(api.MaxPacks)} {
		closes(t, l, nil, "")
		closes(t, l, []string{}, "")
	}
}

// Names may be told twice, and in any order.
func TestClosureOfNamesTwiceOrNotRising(t *testing.T) {
	l := sample()
	closes(t, l, names("lib", "lib"), "lib")
	closes(t, l, names("tool", "lib", "tool"), "lib tool")
	closes(t, l, names("tool", "app"), "app lib tool")
	closes(t, l, names("tool", "lib", "doc", "app"), "app doc lib tool")
	closes(t, l, names("edit", "app", "edit", "-x", "app"), "-x app doc edit lib tool")
	closes(t, l, slices.Repeat(names("doc"), 5000), "doc")
}

func TestClosureOfItself(t *testing.T) {
	closes(t, list(pack("a", "a")), names("a"), "a")
	l := list(pack("b", "b"), pack("a", "a", "b"), pack("c", "a", "c"), pack("d", "d"))
	closes(t, l, names("b"), "b")
	closes(t, l, names("a"), "a b")
	closes(t, l, names("c"), "a b c")
	closes(t, l, names("d"), "d")
}

func TestClosureOverOthers(t *testing.T) {
	l := chain(api.MaxPacks)
	for i, p := range l {
		closes(t, l, names(p.Name), strings.Join(count(i+1), " "))
	}
	// as a row with names that fall
	for i := range l {
		l[i].Name = string(rune('z'-i%20)) + string(rune('z'-i/20))
		l[i].Refs = nil
		if i > 0 {
			l[i].Refs = names(l[i-1].Name)
		}
	}
	var all []string
	for _, p := range l {
		all = append(all, p.Name)
	}
	slices.Sort(all)
	closes(t, l, names(l[api.MaxPacks-1].Name), strings.Join(all, " "))
}

// One that is needed over two others is there once.
func TestClosureOverTwo(t *testing.T) {
	l := list(pack("z"), pack("m", "z"), pack("n", "z"), pack("a", "m", "n"), pack("b", "n"))
	closes(t, l, names("a"), "a m n z")
	closes(t, l, names("b"), "b n z")
	closes(t, l, names("b", "m"), "b m n z")
	closes(t, l, names("b", "a"), "a b m n z")
}

// Users are not needed.
func TestClosureHasNoUsers(t *testing.T) {
	l := list(pack("a"), pack("b", "a"), pack("c", "a", "b"))
	closes(t, l, names("a"), "a")
	closes(t, l, names("b"), "a b")
}

func TestClosureOfAll(t *testing.T) {
	closes(t, alone(api.MaxPacks), count(api.MaxPacks), strings.Join(count(api.MaxPacks), " "))
	l := append(alone(api.MaxRefs), pack("z", count(api.MaxRefs)...))
	closes(t, l, names("z"), strings.Join(append(count(api.MaxRefs), "z"), " "))
}

// Names rise by their bytes.
func TestClosureRises(t *testing.T) {
	l := list(pack("aa"), pack("b"), pack("a0"), pack("a"), pack("a.b"), pack("a-"), pack("0"), pack("..."), pack("-"))
	closes(t, l, names("b", "-", "aa", "...", "a0", "0", "a-", "a", "a.b"), "- ... 0 a a- a.b a0 aa b")
}

func TestClosureOfNone(t *testing.T) {
	for _, s := range nones() {
		for _, of := range [][]string{{s}, {"lib", s}, {s, "lib"}, {"lib", s, "app"}, {s, s}} {
			got, err := refs.Closure(sample(), of)
			if err != api.ErrNone || len(got) > 0 {
				t.Errorf("Closure(%q): %q, %v", of, got, err)
			}
			if got, err := refs.Closure(nil, of); err != api.ErrNone || len(got) > 0 {
				t.Errorf("Closure(%q) of no packs: %q, %v", of, got, err)
			}
		}
	}
}

// What is answered is new memory.
func TestClosureIsNewMemory(t *testing.T) {
	l, of := list(pack("b"), pack("c", "b")), names("b", "c")
	a, _ := refs.Closure(l, of)
	b, _ := refs.Closure(l, of)
	a[0], a[1] = "spoilt", "spoilt"
	if !slices.Equal(b, names("b", "c")) || !slices.Equal(of, names("b", "c")) {
		t.Error("memory is shared:", b, of)
	}
	closes(t, l, of, "b c")
}
