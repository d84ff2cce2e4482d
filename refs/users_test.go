package refs_test

import (
	"slices"
	"strings"
	"testing"

	"stillroom/api"
	"stillroom/refs"
)

func TestUsers(t *testing.T) {
	l := sample()
	uses(t, l, "lib", "-x tool")
	uses(t, l, "tool", "app")
	uses(t, l, "doc", "-x edit")
	uses(t, l, "app", "edit")
	uses(t, l, "edit", "")
	uses(t, l, "-x", "")
}

func TestUsersOfWhatNeedsItself(t *testing.T) {
	uses(t, list(pack("a", "a")), "a", "")
	l := list(pack("b", "b"), pack("c", "b", "c"), pack("a", "a", "b"))
	uses(t, l, "b", "a c")
	uses(t, l, "c", "")
	uses(t, l, "a", "")
}

// Who needs it over others only is none.
func TestUsersOverOthers(t *testing.T) {
	l := chain(api.MaxPacks)
	for i, p := range l {
		want := ""
		if i+1 < len(l) {
			want = l[i+1].Name
		}
		uses(t, l, p.Name, want)
	}
}

// They rise by their bytes, in whatever order they came, and wherever it stands
// in their Refs.
func TestUsersRise(t *testing.T) {
	l := list(pack("m"), pack("a", "m"), pack("z"), pack("b", "a", "m"), pack("a0", "m", "z"), pack("a-", "a", "m", "z"), pack("...", "m"), pack("q", "a"))
	uses(t, l, "m", "... a a- a0 b")
	uses(t, l, "a", "a- b q")
	uses(t, l, "z", "a- a0")
}

func TestUsersMany(t *testing.T) {
	l := alone(api.MaxPacks)
	for i := 1; i < len(l); i++ {
		l[i].Refs = names("p000")
	}
	uses(t, l, "p000", strings.Join(count(api.MaxPacks)[1:], " "))
	uses(t, l, "p001", "")
}

func TestUsersOfNone(t *testing.T) {
	for _, s := range nones() {
		for _, l := range [][]api.Pack{nil, {}, sample()} {
			if got, err := refs.Users(l, s); err != api.ErrNone || len(got) > 0 {
				t.Errorf("Users(%q) of %d packs: %q, %v", s, len(l), got, err)
			}
		}
	}
}

func TestUsersAreNewMemory(t *testing.T) {
	l := list(pack("a"), pack("b", "a"), pack("c", "a"))
	a, _ := refs.Users(l, "a")
	b, _ := refs.Users(l, "a")
	a[0], a[1] = "spoilt", "spoilt"
	if !slices.Equal(b, names("b", "c")) {
		t.Error("memory is shared:", b)
	}
	uses(t, l, "a", "b c")
}
