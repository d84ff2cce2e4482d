package store_test

import (
	"strings"
	"testing"

	"stillroom/api"
)

func TestRoot(t *testing.T) {
	s := newStore(t, 9)
	answers(t, s, "roots", "nothing")
	rootsAre(t, s)
	refuses(t, s, api.ErrNone, "root a", "root ", "root A", "unroot a", "unroot ", "root "+strings.Repeat("x", 30000))
	does(t, s, "add b f0:", "add c f0:", "add a f0:", "add a.b f0:")
	answers(t, s, "root b", "ok", "roots", "b", "root a.b", "ok", "root a", "ok", "root c", "ok", "roots", "a a.b b c")
	rootsAre(t, s, "a", "a.b", "b", "c")
	refuses(t, s, api.ErrExist, "root a", "root a.b", "root b", "root c")
	refuses(t, s, api.ErrNone, "root d", "root ab", "unroot d")
	opens(t, s, 9)
}

func TestUnroot(t *testing.T) {
	s := newStore(t, 9, "add b f0:", "add a f0:", "add c f0:", "root b", "root a")
	refuses(t, s, api.ErrNone, "unroot c", "unroot d", "unroot A", "unroot ")
	answers(t, s, "unroot a", "ok", "roots", "b")
	refuses(t, s, api.ErrNone, "unroot a")
	answers(t, s, "list", "b a c", "root a", "ok", "roots", "a b", "unroot b", "ok", "unroot a", "ok", "roots", "nothing")
	rootsAre(t, s)
	opens(t, s, 9)
}

func TestGc(t *testing.T) {
	s := newStore(t, 20, "add lib f5:hello", "add old f1:x", "add app f4:#lib", "add own f8:#own#old", "add top f4:#app", "add alone d0:")
	was := []string{"read lib /", "hello", "read app /", "#lib", "read top /", "#app", "refs lib", "nothing", "refs app", "lib", "refs top", "app", "need top", "app lib top", "users lib", "app"}
	answers(t, s, was...)
	answers(t, s, "root top", "ok", "free", "15", "gc", "3", "list", "lib app top", "free", "17", "roots", "top")
	answers(t, s, was...)
	refuses(t, s, api.ErrNone, "read old /", "refs own", "need alone", "users old", "root old")
	answers(t, s, "gc", "0", "list", "lib app top")
	// A root that is no root any more; what others need stays.
	answers(t, s, "root app", "ok", "unroot top", "ok", "gc", "1", "list", "lib app", "root lib", "ok", "unroot app", "ok", "gc", "1", "list", "lib", "read lib /", "hello")
	answers(t, s, "unroot lib", "ok", "gc", "1", "list", "nothing", "free", "20", "gc", "0")
	opens(t, s, 20)
}

func TestGcWithNoRoots(t *testing.T) {
	s := newStore(t, 9)
	answers(t, s, "gc", "0", "list", "nothing")
	does(t, s, "add a f1:x", "add b f5:#a #b", "add c f0:")
	answers(t, s, "gc", "3", "list", "nothing", "free", "9", "roots", "nothing")
	packsAre(t, s)
	statsAre(t, s)
	opens(t, s, 9)
}

func TestGcWithAllNeeded(t *testing.T) {
	s := newStore(t, 9, "add a f1:x", "add b f2:#a", "add c f2:#b", "add d f1:y", "root c", "root d")
	was := told(s)
	answers(t, s, "gc", "0", "gc", "0")
	if now := told(s); now != was {
		t.Errorf("%s, was %s", now, was)
	}
	opens(t, s, 9)
}

// A pack that mentions itself alone is not needed by itself.
func TestGcOfAPackThatMentionsItself(t *testing.T) {
	s := newStore(t, 9, "add a f2:#a", "add b f2:#a", "add c f2:#c")
	answers(t, s, "root b", "ok", "gc", "1", "list", "a b", "unroot b", "ok", "gc", "2", "list", "nothing")
}

// A file that dead packs share with one that stays: its bytes stay.
func TestGcBehindOpt(t *testing.T) {
	s := newStore(t, 9, "add a f1:x", "add b f1:x", "add c f1:x", "root b")
	answers(t, s, "opt", "2", "where 0", "a/ b/ c/", "saved", "2", "free", "8", "gc", "2", "where 0", "b/", "saved", "0", "free", "8", "read b /", "x", "unroot b", "ok", "gc", "1", "free", "9")
	opens(t, s, 9)
}

// What can't be read goes as well.
func TestGcOfWhatRotted(t *testing.T) {
	s := newStore(t, 9, "add a f1:x", "add b f1:y", "root b", "rot 0 0")
	answers(t, s, "scan", "0", "gc", "1", "scan", "nothing", "list", "b", "free", "8")
	// A block is written anew when it is used again.
	answers(t, s, "add c f1:z", "ok", "where 0", "c/", "read c /", "z")
	opens(t, s, 9)
}
