package script_test

import (
	"slices"
	"strings"
	"testing"

	"stillroom/api"
	"stillroom/script"
)

func TestNoLines(t *testing.T) {
	for _, lines := range [][]string{nil, {}} {
		if got, err := script.Run(lines); len(got) != 0 || err != nil {
			t.Errorf("%q, %v", got, err)
		}
	}
}

func TestOneLine(t *testing.T) {
	for _, l := range [][2]string{
		{"list", "nothing"}, {"roots", "nothing"}, {"free", "64"}, {"saved", "0"}, {"scan", "nothing"}, {"gc", "0"}, {"opt", "0"},
		{"add a f1:x", "ok"}, {"root a", noneError}, {"cut 0", "ok"}, {"again", "ok"}, {"files a", noneError}, {"", textError},
	} {
		plays(t, l[0], l[1])
	}
}

// Each command of a store, and each that none has.
func TestAllCommands(t *testing.T) {
	plays(t,
		add("lib", dir(kid("a", file("hello")), kid("b", file("hello")), kid("l", link("./a")))), "ok",
		add("app", dir(kid("run", runs("use #lib")))), "ok",
		"list", "lib app", "free", "61", "files lib", "/a /b", "size lib", "10 4", "size app", "8 2",
		"follow lib /l", "/a", "follow app /run", "/run", "diff lib app", "drop:/a drop:/b drop:/l add:/run",
		"root app", "ok", "roots", "app", "refs app", "lib", "users lib", "app", "need app", "app lib", "gc", "0",
		"opt", "1", "saved", "1", "free", "62", "where 0", "lib/a lib/b", "read lib /", "a b l", "read lib /l", "->./a",
		"rot 0 3", "ok", "scan", "0", "files lib", sumError, "mend 0 hello", "ok", "scan", "nothing", "read lib /a", "hello",
		cut(size("unroot app")), "ok", "unroot app", "ok", "roots", "nothing", "gc", offError, "again", "ok",
		"list", "lib app", "roots", "nothing", "saved", "1", "where 0", "lib/a lib/b", "gc", "2", "list", "nothing", "free", "64")
}

// An error's text is the answer, and the lines behind it are done.
func TestErrorsAreAnswers(t *testing.T) {
	plays(t,
		"add A f1:x", nameError, "add a f1:x", "ok", "add a f1:y", existError, "add b f1:", textError, "add b l0:", boundError,
		"add b q1:x", textError, add("b", file(long(1009))), fullError, "add b "+strings.Repeat("d1:1:a", 9)+"f0:", deepError,
		"add b "+strings.Repeat("x", api.MaxText+1), boundError, "root b", noneError, "unroot a", noneError, "root a", "ok", "root a", existError,
		"read a /b", noneError, "read a b", nameError, "rot 64 0", boundError, "mend 0 x", existError, "rot 0 0", "ok", "mend 0 y", sumError,
		"read a /", sumError, "mend 0 x", "ok", "read a /", "x", "cut 0", "ok", "gc", offError, "list", "a", "roots", "a")
}

// Its store has 64 blocks, at first and when it is opened anew.
func TestBlocks(t *testing.T) {
	plays(t, "free", "64", "rot 63 127", "ok", "rot 64 0", boundError, add("a", file(long(1025))), fullError,
		add("a", file(long(1024))), "ok", "free", "0", "again", "ok", "free", "0", "rot 63 127", "ok", "size a", sumError,
		"again", "ok", "size a", sumError, "rot 63 127", "ok", "size a", "1024 1", "gc", "1", "free", "64", "again", "ok", "free", "64", "rot 64 0", boundError, "rot 63 0", "ok",
		add("b", file(long(1025))), fullError, add("b", file(long(1024))), "ok", "free", "0")
}

// many are that many lines, of which each has its place in what is answered.
func many(count int) (lines, want []string) {
	for i := range count {
		switch i % 4 {
		case 0:
			lines, want = append(lines, "add a f1:x"), append(want, "ok")
		case 1:
			lines, want = append(lines, "what"), append(want, textError)
		case 2:
			lines, want = append(lines, "size a"), append(want, "1 1")
		case 3:
			lines, want = append(lines, "gc"), append(want, "1")
		}
	}
	return lines, want
}

func TestHowManyLines(t *testing.T) {
	for count := range api.MaxScript + 1 {
		lines, want := many(count)
		if got := run(t, lines...); !slices.Equal(got, want) {
			t.Errorf("%d lines: %q, want %q", count, got, want)
		}
	}
}

// Whichever they are: also lines with an error, that ask, that are none.
func TestTooManyLines(t *testing.T) {
	for _, count := range []int{api.MaxScript + 1, api.MaxScript + 2, 2 * api.MaxScript, 1000} {
		lines, _ := many(count)
		for _, l := range [][]string{lines, make([]string, count), slices.Repeat([]string{"list"}, count), slices.Repeat([]string{"again"}, count)} {
			if got, err := script.Run(l); len(got) != 0 || err != api.ErrBound {
				t.Errorf("%d lines: %.200q, %v", count, got, err)
			}
		}
	}
	for _, line := range []string{"", "list", "again", "what", "files a", "cut 9"} {
		run(t, slices.Repeat([]string{line}, api.MaxScript)...)
	}
}

// What is answered is new memory, and what is handed over is only read, up to its
// length.
func TestMemory(t *testing.T) {
	lines := []string{"add a f1:x", "files a", "what", "list"}
	got, err := script.Run(lines[:2])
	if err != nil || !slices.Equal(got, []string{"ok", "/"}) {
		t.Errorf("%q, %v", got, err)
	}
	_ = append(got[:0], "x", "y")
	if !slices.Equal(lines, []string{"add a f1:x", "files a", "what", "list"}) {
		t.Errorf("%q", lines)
	}
	if got := run(t, lines...); !slices.Equal(got, []string{"ok", "/", textError, "a"}) {
		t.Errorf("%q", got)
	}
}
