package store_test

import (
	"testing"

	"stillroom/store"
)

// same wants one answer, whichever of the two is told first.
func same(t *testing.T, about string, want bool, a, b *store.Store) {
	t.Helper()
	if store.Same(a, b) != want || store.Same(b, a) != want {
		t.Errorf("%s: %v, %v, want %v", about, store.Same(a, b), store.Same(b, a), want)
	}
}

func TestSameAsItself(t *testing.T) {
	for i := range changes() {
		s := newStore(t, 10, changes()[:i]...)
		same(t, "itself", true, s, s)
		same(t, "one that is made alike", true, s, newStore(t, 10, changes()[:i]...))
		same(t, "nil", false, s, nil)
		was := all(s)
		if store.Same(s, newStore(t, 10, changes()...)); all(s) != was {
			t.Errorf("%s, was %s", all(s), was)
		}
	}
	same(t, "two that are nil", true, nil, nil)
}

func TestNotSame(t *testing.T) {
	for _, c := range []struct {
		about string
		a, b  []string
	}{
		{"a pack more", []string{"add a f0:"}, []string{"add a f0:", "add b l1:x"}},
		{"a pack's name", []string{"add a f1:x"}, []string{"add b f1:x"}},
		{"the order of packs", []string{"add a d0:", "add b d0:"}, []string{"add b d0:", "add a d0:"}},
		{"which pack has a tree", []string{"add a f1:x", "add b f1:y"}, []string{"add b f1:x", "add a f1:y"}},
		{"the Refs of what can't be read", []string{"add x f0:", "add y f0:", "add p d2:1:ff1:z1:ll2:#x", "rot 0 0"}, []string{"add x f0:", "add y f0:", "add p d2:1:ff1:z1:ll2:#y", "rot 0 0"}},
		{"a tree's link", []string{"add a l1:x"}, []string{"add a l1:y"}},
		{"a tree's name", []string{"add a d1:1:xf1:x"}, []string{"add a d1:1:yf1:x"}},
		{"a tree's kind", []string{"add a d0:"}, []string{"add a l1:x"}},
		{"a tree's bytes", []string{"add a f1:x"}, []string{"add a f1:y"}},
		{"a tree's Exec", []string{"add a f1:x"}, []string{"add a x1:x"}},
		{"which file has bytes", []string{"add a d2:1:af1:x1:bf1:y"}, []string{"add a d2:1:af1:y1:bf1:x"}},
		{"whether it can be read", []string{"add a f1:x"}, []string{"add a f1:x", "rot 0 0"}},
		{"a root more", []string{"add a f0:"}, []string{"add a f0:", "root a"}},
		{"which is a root", []string{"add a f0:", "add b f0:", "root a"}, []string{"add a f0:", "add b f0:", "root b"}},
		{"blocks", []string{"add a f1:x"}, []string{"add z f1:x", "add a f1:x", "root a", "gc"}},
		{"how many inodes", []string{"add a f0:", "add b f0:"}, []string{"add a f0:", "add b f0:", "opt"}},
		{"bytes of what can't be read", []string{"add a f1:x", "rot 0 0"}, []string{"add a f2:xx", "rot 0 0"}},
		{"the sum of what can't be read", []string{"add a f1:x", "rot 0 0"}, []string{"add a f1:y", "rot 0 0"}},
		{"the Exec of what can't be read", []string{"add a f1:x", "rot 0 0"}, []string{"add a x1:x", "rot 0 0"}},
		{"links alone",
			[]string{"add a f1:x", "add b f1:x", "opt", "add c f1:x"},
			[]string{"add a f1:x", "rot 0 0", "add b f1:x", "add c f1:x", "opt", "mend 0 x"}},
	} {
		same(t, c.about, false, newStore(t, 9, c.a...), newStore(t, 9, c.b...))
	}
}

// What it does not tell of: blocks that are free, the tape, how often a bit was
// turned.
func TestSameAllTheSame(t *testing.T) {
	for _, c := range []struct {
		about string
		a, b  []string
	}{
		{"lines that change nothing", []string{"add a f1:x"}, []string{"gc", "opt", "add a f1:x", "opt", "rot 0 0", "rot 0 0"}},
		{"what went", []string{"add a f1:x", "root a"}, []string{"add z f1:y", "gc", "add a f1:x", "root a", "gc"}},
		{"the order of roots", []string{"add a f0:", "add b f0:", "root a", "root b"}, []string{"add a f0:", "add b f0:", "root b", "root a"}},
		{"free blocks", []string{"add a f1:x"}, []string{"add a f1:x", "rot 5 0"}},
		{"two bits that rotted", []string{"add a f1:x", "rot 0 0"}, []string{"add a f1:x", "rot 0 1"}},
		{"what was mended", []string{"add a f1:x"}, []string{"add a f1:x", "rot 0 0", "mend 0 x"}},
	} {
		same(t, c.about, true, newStore(t, 9, c.a...), newStore(t, 9, c.b...))
	}
	// Nor how many blocks there are, nor power.
	a, b := newStore(t, 9, "add a f1:x"), newStore(t, 20, "add a f1:x")
	same(t, "blocks that are free", true, a, b)
	cut(t, b, 0)
	off(t, b, "gc")
	same(t, "power", true, a, b)
}
