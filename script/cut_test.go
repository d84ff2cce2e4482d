package script_test

import (
	"testing"
)

// some are packs a, a root, and b.
func some() []string {
	return []string{
		add("a", dir(kid("f", file("hi")), kid("l", link("f")))),
		add("b", dir(kid("f", file("ho #a")), kid("x", runs("")))),
		"root a",
	}
}

func TestCutAtOnce(t *testing.T) {
	plays(t, "cut 0", "ok", "add a f1:x", offError, "list", "nothing", "again", "ok", "list", "nothing", "add a f1:x", "ok", "again", "ok", "list", "a")
	behind(t, some(), "cut 0", "ok", "gc", offError, "list", "a b", "again", "ok", "list", "a b", "gc", "1", "again", "ok", "list", "a")
}

// Ahead of each byte of a record: then it was not done, and is not there when the
// store is opened anew. One that a cut just reaches is.
func TestCutInARecord(t *testing.T) {
	for n := range size("root b") {
		behind(t, some(), cut(n), "ok", "root b", offError, "roots", "a", "again", "ok", "roots", "a", "root b", "ok", "again", "ok", "roots", "a b")
	}
	whole := size("root b")
	behind(t, some(), cut(whole), "ok", "root b", "ok", "roots", "a b", "unroot b", offError, "roots", "a b", "again", "ok", "roots", "a b")
	behind(t, some(), cut(whole), "ok", "root b", "ok", "again", "ok", "roots", "a b", "unroot b", "ok", "roots", "a")
	behind(t, some(), cut(whole+1), "ok", "root b", "ok", "unroot b", offError, "again", "ok", "roots", "a b")
}

// Over more than one record.
func TestCutInALaterRecord(t *testing.T) {
	n := size("root b") + size("unroot a")
	behind(t, some(), cut(n-1), "ok", "root b", "ok", "unroot a", offError, "unroot b", offError, "roots", "a b", "again", "ok", "roots", "a b")
	behind(t, some(), cut(n), "ok", "root b", "ok", "unroot a", "ok", "unroot b", offError, "roots", "b", "again", "ok", "roots", "b")
}

// While power is off: what changes has this error, a cut too, and what asks is
// answered.
func TestPowerIsOff(t *testing.T) {
	off := append(some(), "cut 9", "cut 3")
	behind(t, off, "gc", offError, "cut 0", offError, "cut 999999", offError, "root b", offError, "opt", offError, "rot 0 0", offError,
		"add c f0:", offError, "unroot a", offError, "gc", offError, "roots", "a", "list", "a b", "scan", "nothing",
		"files a", "/f", "size a", "2 3", "follow a /l", "/f", "diff a b", "edit:/f drop:/l add:/x", "again", "ok", "cut 0", "ok", "gc", offError)
	// An error of the line's own is told ahead of that.
	behind(t, off, "gc", offError, "cut", textError, "cut x", textError, "cut -1", textError, "cut 1 1", textError, "cut 1000000", textError,
		"root c", noneError, "root a", existError, "add A f0:", nameError, "files c", noneError, "what", textError)
}

// A second cut takes the place of the one that waits, whether it comes earlier or
// later.
func TestCutTwice(t *testing.T) {
	behind(t, some(), "cut 0", "ok", "cut 999999", "ok", "gc", "1", "root a", existError, "list", "a")
	behind(t, some(), "cut 999999", "ok", "cut 0", "ok", "gc", offError, "list", "a b")
	behind(t, some(), cut(size("gc")+5), "ok", "opt", "0", cut(size("gc")), "ok", "gc", "1", "gc", offError)
}

// What writes nothing does not meet a cut, and a cut is no record itself.
func TestCutIsNotMet(t *testing.T) {
	behind(t, some(), "cut 0", "ok", "list", "a b", "what", textError, "root q", noneError, "root a", existError, "files a", "/f", "size b", "5 3",
		"diff a a", "nothing", "follow a /", "/", "cut x", textError, "read a /f", "hi", cut(size("gc")), "ok", "gc", "1", "gc", offError)
	behind(t, some(), "cut 999999", "ok", "again", "ok", "again", "ok", "gc", "1", "again", "ok", "list", "a", "roots", "a")
}

// Numbers of at most six digits, and none below 0.
func TestCutOfNumbers(t *testing.T) {
	for _, n := range []string{"0", "1", "9", "10", "100000", "999999"} {
		behind(t, some(), "cut "+n, "ok")
	}
	for _, n := range []string{
		"", "x", "a", "00", "01", "007", "000001", "-1", "-0", "+1", "+0", "1000000", "0000000", "1234567", "99999999999999999999",
		"-99999999999999999999", "1.0", "1e3", "0x1", "1_0", "1,0", "١", "1\n", "\t1", "1x",
	} {
		refuses(t, some(), textError, "cut "+n)
		// One that waits goes on.
		behind(t, some(), cut(size("gc")), "ok", "cut "+n, textError, "gc", "1", "gc", offError)
		behind(t, some(), "cut "+n, textError, "gc", "1", "gc", "0")
	}
}
