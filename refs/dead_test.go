package refs_test

import (
	"slices"
	"strings"
	"testing"

	"stillroom/api"
	"stillroom/refs"
)

func TestDead(t *testing.T) {
	l := sample()
	dies(t, l, names("lib"), "-x edit app doc tool")
	dies(t, l, names("tool"), "-x edit app doc")
	dies(t, l, names("doc"), "-x edit app tool lib")
	dies(t, l, names("app"), "-x edit doc")
	dies(t, l, names("edit"), "-x")
	dies(t, l, names("-x"), "edit app tool")
	dies(t, l, names("doc", "app"), "-x edit")
}

// Without roots all are dead, the last one first.
func TestDeadWithoutRoots(t *testing.T) {
	dies(t, nil, nil, "")
	dies(t, []api.Pack{}, []string{}, "")
	dies(t, sample(), nil, "-x edit app doc tool lib")
	dies(t, sample(), []string{}, "-x edit app doc tool lib")
	dies(t, list(pack("a", "a")), nil, "a")
	all := count(api.MaxPacks)
	slices.Reverse(all)
	dies(t, alone(api.MaxPacks), nil, strings.Join(all, " "))
	dies(t, chain(api.MaxPacks), nil, strings.Join(all, " "))
}

func TestDeadWhereAllAreRoots(t *testing.T) {
	dies(t, sample(), names("lib", "tool", "doc", "app", "edit", "-x"), "")
	dies(t, alone(api.MaxPacks), count(api.MaxPacks), "")
	dies(t, list(pack("a", "a")), names("a"), "")
}

// Where the roots need all, none is dead.
func TestDeadWhereAllAreNeeded(t *testing.T) {
	dies(t, sample(), names("edit", "-x"), "")
	dies(t, chain(api.MaxPacks), names("p039"), "")
}

func TestDeadOfRootsTwiceOrNotRising(t *testing.T) {
	dies(t, sample(), names("tool", "tool"), "-x edit app doc")
	dies(t, sample(), names("lib", "doc", "-x", "doc"), "edit app tool")
	dies(t, sample(), slices.Repeat(names("edit"), 5000), "-x")
}

// One that needs itself is not alive by that.
func TestDeadThatNeedsItself(t *testing.T) {
	l := list(pack("a", "a"), pack("b", "a", "b"), pack("c", "c"))
	dies(t, l, names("a"), "c b")
	dies(t, l, names("b"), "c")
	dies(t, l, names("c"), "b a")
}

// The order is that in which they came, not that of their names.
func TestDeadLastFirst(t *testing.T) {
	l := list(pack("b"), pack("d"), pack("a"), pack("e"), pack("c"))
	dies(t, l, nil, "c e a d b")
	dies(t, l, names("a"), "c e d b")
	dies(t, l, names("b", "c"), "e a d")
}

func TestDeadBehindARoot(t *testing.T) {
	l := chain(api.MaxPacks)
	for i, p := range l {
		want := count(api.MaxPacks)[i+1:]
		slices.Reverse(want)
		dies(t, l, names(p.Name), strings.Join(want, " "))
	}
}

func TestDeadOfNone(t *testing.T) {
	for _, s := range nones() {
		for _, roots := range [][]string{{s}, {"lib", s}, {s, "lib"}, {"lib", s, "app"}, {s, s}} {
			for _, l := range [][]api.Pack{nil, {}, sample()} {
				if got, err := refs.Dead(l, roots); err != api.ErrNone || len(got) > 0 {
					t.Errorf("Dead(%q) of %d packs: %q, %v", roots, len(l), got, err)
				}
			}
		}
	}
}

func TestDeadAreNewMemory(t *testing.T) {
	l, roots := list(pack("b"), pack("c"), pack("a")), names("b")
	a, _ := refs.Dead(l, roots)
	b, _ := refs.Dead(l, roots)
	a[0], a[1] = "spoilt", "spoilt"
	if !slices.Equal(b, names("a", "c")) || roots[0] != "b" {
		t.Error("memory is shared:", b, roots)
	}
	dies(t, l, roots, "a c")
}
