package store_test

import (
	"strings"
	"testing"

	"stillroom/api"
)

// words are all commands.
func words() []string {
	return strings.Fields("add root unroot gc opt rot mend read list roots refs users need scan free saved where")
}

// some is a store in which each command has something to do.
func some(t *testing.T) []string {
	t.Helper()
	return []string{"add a f1:x", "add b d1:1:ff3:#a ", "root a", "root b"}
}

func TestNoCommand(t *testing.T) {
	s := newStore(t, 9, some(t)...)
	refuses(t, s, api.ErrText,
		"", " ", "  ", "     ", "\n", "\t", "\x00", "what", "what a", "what a f1:x",
		"List", "LIST", "lis", "listed", "list\n", "\nlist", "list\t", " list", "  list", "list,roots",
		"cut 1", "again", "diff a b", "follow a /", "files a", "size a")
	for _, word := range words() {
		refuses(t, s, api.ErrText, " "+word, strings.ToUpper(word), word+"s a", word[1:], word+"\n", word+"\ta")
	}
}

// Fewer arguments than a command has, and more.
func TestHowManyArguments(t *testing.T) {
	s := newStore(t, 9, some(t)...)
	for _, word := range strings.Fields("gc opt list roots scan free saved") {
		refuses(t, s, api.ErrText, word+" ", word+"  ", word+" a", word+" 0", word+" a b", word+" "+word)
	}
	for _, word := range strings.Fields("root unroot refs users need where") {
		refuses(t, s, api.ErrText, word, word+" a b", word+" a a", word+" 0 0", word+" a b c")
	}
	for _, word := range strings.Fields("add rot mend read") {
		refuses(t, s, api.ErrText, word, word+" a", word+" 0", word+" ")
	}
	refuses(t, s, api.ErrText, "rot 0 0 0", "rot 0 0 x", "read a / /", "read a / b", "read b /f f", "read a /a b")
}

// A line whose last argument does not go to its end has no blank more than it
// asks for, neither in it nor at its end.
func TestBlanks(t *testing.T) {
	s := newStore(t, 9, some(t)...)
	refuses(t, s, api.ErrText,
		"root  a", "root a ", " root a", "root a  ", "unroot  a", "unroot a ", "refs  b", "refs b ", "users  a", "users a ",
		"need  b", "need b ", "where  0", "where 0 ", "rot  0 0", "rot 0  0", "rot 0 0 ", "read  a /", "read a  /", "read a / ",
		"mend  0 x", "list ", "list  ", "gc ", "opt  ")
	// One with nothing behind it is an argument of no bytes.
	refuses(t, s, api.ErrNone, "root ", "unroot ", "refs ", "users ", "need ", "read  /", "mend 9 ")
	refuses(t, s, api.ErrText, "where ", "rot  ", "rot 0 ", "rot  0", "mend  ", "add c ", "add c  f1:x", "add c f1:x ", "add c f1: x")
	refuses(t, s, api.ErrName, "add  c f1:x", "add  f1:x", "add  ", "read a ")
	// What goes to the end has blanks of its own.
	does(t, s, "rot 0 0")
	refuses(t, s, api.ErrSum, "mend 0  x", "mend 0 x ", "mend 0 ", "mend 0 x\n")
	answers(t, s, "add c f2:  ", "ok", "read c /", "  ", "rot 2 0", "ok", "mend 2   ", "ok", "read c /", "  ")
}

func TestNumbers(t *testing.T) {
	s := newStore(t, 9, some(t)...)
	no := []string{
		"", "x", "a", "00", "01", "007", "000001", "-1", "-0", "+1", "+0", "1000000", "0000000", "1234567", "99999999999999999999",
		"1.0", "1e3", "0x1", "1_0", "1,0", "١", "1\n", "\t1", "1x",
	}
	for _, n := range no {
		refuses(t, s, api.ErrText, "rot "+n+" 0", "rot 0 "+n, "rot 9 "+n, "rot "+n+" 999", "mend "+n+" x", "mend "+n+" ", "where "+n)
	}
	refuses(t, s, api.ErrBound, "rot 999999 0", "rot 0 999999", "rot 100000 0", "rot 9 0", "rot 0 128")
	refuses(t, s, api.ErrNone, "mend 999999 x", "mend 100000 x", "mend 2 x")
	answers(t, s, "where 999999", "nothing", "where 100000", "nothing", "where 2", "nothing", "where 0", "a/", "where 1", "b/f")
}

// What is told by more than one error: the first one that is so.
func TestErrorsInTheirOrder(t *testing.T) {
	s := newStore(t, 9, some(t)...)
	refuses(t, s, api.ErrText, "rot 0 0 0 0", "rot x 999999", "rot 999999 x", "mend 01 x", "read zz", "root zz zz", "add zz")
	refuses(t, s, api.ErrName, "add Z ", "add Z what", "add Z f1:", "add Z l0:")
	refuses(t, s, api.ErrExist, "add a what", "add a l0:", "add a f1:", "add a ")
	refuses(t, s, api.ErrNone, "read zz ", "read zz q", "read zz /q", "mend 2 "+strings.Repeat("x", 3000))
	does(t, s, "rot 0 0")
	refuses(t, s, api.ErrSum, "mend 0 z", "read a ", "read a q", "read a /q")
	refuses(t, s, api.ErrSum, "mend 1 z") // that can be read: the bytes come first
	refuses(t, s, api.ErrExist, "mend 1 #a ")
}

// A line is one of these lines by its own bytes alone.
func TestLinesThatLookAlike(t *testing.T) {
	s := newStore(t, 9)
	does(t, s, "add list f1:x", "add add f5:#list", "add 0 f1:x", "add 01 f1:y", "root list", "root 0")
	answers(t, s,
		"list", "list add 0 01", "refs add", "list", "users list", "add", "need add", "add list", "roots", "0 list",
		"read list /", "x", "read 01 /", "y", "where 1", "add/", "unroot 0", "ok", "roots", "list")
}
