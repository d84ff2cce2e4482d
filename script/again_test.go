package script_test

import (
	"slices"
	"testing"
)

// asks tells whether all that told asks is answered as it was, when the store is
// opened anew behind these lines.
func asks(t *testing.T, lines ...string) {
	t.Helper()
	was := run(t, append(slices.Clone(lines), told()...)...)[len(lines):]
	for count := 1; count <= 3; count++ {
		all := append(slices.Clone(lines), slices.Repeat([]string{"again"}, count)...)
		now := run(t, append(all, told()...)...)[len(lines):]
		for _, answer := range now[:count] {
			if answer != "ok" {
				t.Errorf("again: %q", answer)
			}
		}
		if !slices.Equal(now[count:], was) {
			t.Errorf("%d times anew\n%.900q\nis, what was\n%.900q", count, now[count:], was)
		}
	}
}

func TestAgainAheadOfAnyLine(t *testing.T) {
	plays(t, "again", "ok", "list", "nothing", "free", "64", "add a f1:x", "ok", "again", "ok", "read a /", "x", "free", "63")
	plays(t, "again", "ok", "again", "ok", "again", "ok", "roots", "nothing", "cut 0", "ok", "again", "ok", "gc", "0")
	asks(t)
}

func TestAgain(t *testing.T) {
	asks(t, some()...)
	for _, line := range []string{"gc", "opt", "root b", "unroot a", "rot 0 0", "rot 63 1", "add c f9:#a and #b", "mend 9 x", "what", "list", "cut 5"} {
		asks(t, append(some(), line)...)
	}
	asks(t, append(some(), "add c f2:hi", "opt", "rot 0 7", "unroot a", "gc", "add a x2:hi", "root a")...)
}

// A line with an error is no record: nothing of it is done anew.
func TestAgainBehindAnError(t *testing.T) {
	for _, line := range []string{"", "what", "add a f0:", "add A f0:", add("c", file(long(1009))), "root a", "root q", "mend 0 hi", "rot 64 0", "cut x", "again 1", "files q"} {
		asks(t, append(some(), line)...)
		asks(t, line)
	}
	plays(t, "what", textError, "again", "ok", "root a", noneError, "again", "ok", "again", "ok", "list", "nothing")
}

// Behind a record that was torn, power is there again, and none waits to go; the
// line was not done, and may be.
func TestAgainBehindATornRecord(t *testing.T) {
	plays(t, "add a f1:x", "ok", "cut 4", "ok", "root a", offError, "gc", offError, "again", "ok", "list", "a", "roots", "nothing",
		"root a", "ok", "gc", "0", "again", "ok", "roots", "a")
	// Twice torn, in one place.
	plays(t, "add a f1:x", "ok", "cut 4", "ok", "root a", offError, "again", "ok", "cut 2", "ok", "gc", offError, "again", "ok", "list", "a",
		"cut 11", "ok", "root a", "ok", "gc", offError, "again", "ok", "roots", "a", "again", "ok", "list", "a", "gc", "0")
	for n := range size("unroot a") {
		asks(t, append(some(), cut(n), "unroot a")...)
		asks(t, append(some(), cut(n), "unroot a", "again", "root b", cut(n), "unroot b")...)
	}
}

// Also a cut that waits is gone.
func TestAgainWhileACutWaits(t *testing.T) {
	behind(t, some(), "cut 0", "ok", "again", "ok", "gc", "1", "list", "a", "again", "ok", "list", "a")
	behind(t, some(), "cut 0", "ok", "gc", offError, "again", "ok", "cut 0", "ok", "again", "ok", "gc", "1")
}

// Rot is a record too, and so is what was mended: also bytes of blocks that are
// free.
func TestAgainBehindRot(t *testing.T) {
	behind(t, some(), "rot 0 0", "ok", "files a", sumError, "again", "ok", "files a", sumError, "size a", sumError, "scan", "0", "where 0", "a/f",
		"files b", "/f /x", "again", "ok", "scan", "0", "mend 0 ho", sumError, "mend 0 hi", "ok", "again", "ok", "scan", "nothing", "files a", "/f", "size a", "2 3")
	behind(t, some(), "rot 0 0", "ok", "again", "ok", "rot 0 0", "ok", "size a", "2 3", "again", "ok", "size a", "2 3")
	behind(t, some(), "rot 1 0", "ok", "unroot a", "ok", "again", "ok", "diff a b", sumError, "gc", "2", "again", "ok", "diff a b", noneError, "free", "64")
}

// Numbers of inodes and places on the disk stay too: what went left its own free.
func TestAgainHasTheSameNumbers(t *testing.T) {
	behind(t, some(), "add c f1:c", "ok", "add d f1:c", "ok", "gc", "3", "add c f17:12345678901234567", "ok", "where 1", "c/", "where 0", "a/f", "free", "61",
		"again", "ok", "where 1", "c/", "where 0", "a/f", "where 2", "nothing", "free", "61", "rot 2 0", "ok", "scan", "1",
		"again", "ok", "scan", "1", "rot 2 0", "ok", "opt", "0", "list", "a c")
}
