package store_test

import (
	"strconv"
	"strings"
	"testing"

	"stillroom/api"
)

func TestRead(t *testing.T) {
	s := newStore(t, 9, add("a", dir(
		kid("d", dir(kid("e", dir()), kid("f", file("in a dir")))),
		kid("f", file("a b\n c ")),
		kid("g", file("")),
		kid("l", link("../d/f")),
		kid("n", file("nothing")),
		kid("x", runs("runs")))),
		"add b f1:y", "add c l2:/d", "add d d0:", "add e d1:1:af0:")
	answers(t, s,
		"read a /f", "a b\n c ", "read a /g", "", "read a /x", "runs", "read a /d/f", "in a dir", "read a /n", "nothing",
		"read a /l", "->../d/f", "read c /", "->/d", "read b /", "y",
		"read a /", "d f g l n x", "read a /d", "e f", "read e /", "a",
		"read a /d/e", "nothing", "read d /", "nothing")
	refuses(t, s, api.ErrNone, "read zz /", "read q /f", "read  /", "read A /",
		"read a /q", "read a /d/q", "read a /q/f", "read d /a",
		"read a /f/a", "read a /g/f", "read b /y", "read a /l/f", "read c /f") // behind a file, behind a link
	refuses(t, s, api.ErrName, "read a f", "read a ", "read a //", "read a /f/", "read a /.", "read a /d/..", "read a /F", "read b y",
		"read a "+strings.Repeat("/d", api.MaxDeep+1), "read a /"+strings.Repeat("x", api.MaxName+1))
	refuses(t, s, api.ErrNone, "read a "+strings.Repeat("/d", api.MaxDeep), "read a /"+strings.Repeat("x", api.MaxName))
}

func TestList(t *testing.T) {
	s := newStore(t, 9)
	answers(t, s, "list", "nothing", "add b f0:", "ok", "list", "b", "add a f0:", "ok", "add c f0:", "ok", "add a.b f0:", "ok", "list", "b a c a.b")
}

func TestRefsUsersAndNeed(t *testing.T) {
	s := newStore(t, 20)
	refuses(t, s, api.ErrNone, "refs a", "users a", "need a", "refs ", "users ", "need ")
	does(t, s, "add z f1:x", "add y f2:#z", "add x f5:#y #x", "add a f8:#z #y #x", "add b f2:#q")
	answers(t, s,
		"refs z", "nothing", "refs y", "z", "refs x", "x y", "refs a", "x y z", "refs b", "nothing",
		"users z", "a y", "users y", "a x", "users x", "a", "users a", "nothing", "users b", "nothing",
		"need z", "z", "need y", "y z", "need x", "x y z", "need a", "a x y z", "need b", "b")
	refuses(t, s, api.ErrNone, "refs q", "users q", "need q", "refs Z", "users zz", "need "+strings.Repeat("z", 30000))
	does(t, s, "root x", "gc")
	answers(t, s, "users z", "y", "users y", "x", "users x", "nothing", "need x", "x y z", "refs x", "x y")
	refuses(t, s, api.ErrNone, "refs a", "users a", "need a", "refs b", "users b", "need b")
}

func TestScan(t *testing.T) {
	s := newStore(t, 20)
	answers(t, s, "scan", "nothing")
	for _, name := range names(12) {
		does(t, s, "add "+name+" f1:x")
	}
	answers(t, s, "scan", "nothing", "rot 2 0", "ok", "scan", "2", "rot 11 0", "ok", "rot 0 0", "ok", "rot 10 1", "ok", "scan", "0 2 10 11", "rot 0 0", "ok", "scan", "2 10 11")
}

func TestFree(t *testing.T) {
	for _, n := range []int{1, 17, api.MaxBlocks} {
		s := newStore(t, n, "add a f0:", "add b l1:x", "add c d0:")
		answers(t, s, "free", strconv.Itoa(n))
		answers(t, s, add("d", file(long(16))), "ok", "free", strconv.Itoa(n-1))
	}
	s := newStore(t, 3)
	answers(t, s, "free", "3", add("a", file(long(17))), "ok", "free", "1", "add b f1:x", "ok", "free", "0", "root b", "ok", "gc", "1", "free", "2")
}

func TestSaved(t *testing.T) {
	s := newStore(t, 20)
	answers(t, s, "saved", "0", add("a", file(long(40))), "ok", add("b", file(long(40))), "ok", "saved", "0", "opt", "1", "saved", "3")
	answers(t, s, add("c", file(long(40))), "ok", "saved", "3", "opt", "1", "saved", "6", "add d f0:", "ok", "add e f0:", "ok", "opt", "1", "saved", "6", "root c", "ok", "gc", "4", "saved", "0")
}

// The pack's name stands in the place of its tree's number, also where numbers
// and names are apart: behind a gc, and with names that are numbers.
func TestWhere(t *testing.T) {
	s := newStore(t, 20)
	answers(t, s, "where 0", "nothing", "where 7", "nothing")
	does(t, s, "add 1 f1:x", "add 2 d2:1:af1:x1:bd1:1:cf1:x", "add 0 f1:y", "add 3 f1:x")
	answers(t, s, "where 0", "1/", "where 1", "2/a", "where 2", "2/b/c", "where 3", "0/", "where 4", "3/", "where 5", "nothing")
	answers(t, s, "opt", "3", "where 0", "1/ 2/a 2/b/c 3/", "where 1", "nothing", "where 3", "0/")
	answers(t, s, "root 0", "ok", "gc", "3", "where 0", "nothing", "where 3", "0/", "add 1 f1:z", "ok", "where 0", "1/", "add app f1:z", "ok", "opt", "1", "where 0", "1/ app/")
	// Also of what can't be read.
	answers(t, s, "rot 0 0", "ok", "scan", "0", "where 0", "1/ app/")
	opens(t, s, 20)
}

// A store of many trees: their numbers have more than one digit, and begin one
// another.
func TestWhereOfMany(t *testing.T) {
	s := newStore(t, 40)
	l := names(30)
	for _, name := range l {
		does(t, s, "add "+name+" f1:x")
	}
	answers(t, s, "opt", "29", "where 0", strings.Join(l, "/ ")+"/")
}

// What only asks is no record, and changes nothing; nor does it need power.
func TestAsksAreNoRecords(t *testing.T) {
	s := newStore(t, 9, some(t)...)
	asks := []string{"read a /", "read b /f", "list", "roots", "refs b", "users a", "need b", "scan", "free", "saved", "where 0"}
	was := all(s)
	does(t, s, asks...)
	does(t, s, asks...)
	if now := all(s); now != was {
		t.Errorf("%s, was %s", now, was)
	}
	cut(t, s, 0)
	does(t, s, asks...)
	holds(t, s.Tape(), records(some(t)...))
	off(t, s, "gc")
	does(t, s, asks...)
	refuses(t, s, api.ErrOff, "gc")
}
