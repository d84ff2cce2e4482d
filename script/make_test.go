package script_test

import (
	"fmt"
	"slices"
	"strconv"
	"strings"
	"testing"

	"stillroom/api"
	"stillroom/pack"
	"stillroom/script"
)

// Errors' texts, as they stand in the document's package.
const (
	textError  = "stillroom: text"
	boundError = "stillroom: bound"
	nameError  = "stillroom: name"
	noneError  = "stillroom: none"
	existError = "stillroom: exist"
	fullError  = "stillroom: full"
	deepError  = "stillroom: deep"
	sumError   = "stillroom: sum"
	offError   = "stillroom: off"
)

func file(data string) api.Node { return api.Node{Kind: "file", Data: data} }

func runs(data string) api.Node { return api.Node{Kind: "file", Data: data, Exec: true} }

func link(to string) api.Node { return api.Node{Kind: "link", Data: to} }

func dir(kids ...api.Kid) api.Node { return api.Node{Kind: "dir", Kids: kids} }

func kid(name string, n api.Node) api.Kid { return api.Kid{Name: name, Node: n} }

// wide has that many kids.
func wide(kids int) api.Node {
	n := dir()
	for i := range kids {
		n.Kids = append(n.Kids, kid(fmt.Sprintf("k%03d", i), file("")))
	}
	return n
}

// nested is a node in that many dirs, one in the other.
func nested(deep int, n api.Node) api.Node {
	for range deep {
		n = dir(kid("a", n))
	}
	return n
}

// add is the line that adds a tree.
func add(name string, n api.Node) string { return "add " + name + " " + pack.Text(n) }

// long has that many bytes, and no two blocks of it are alike.
func long(n int) string {
	b := make([]byte, n)
	for i := range b {
		b[i] = byte(1 + (i+i/api.BlockSize)%255)
	}
	return string(b)
}

// size of the record that a line is on the tape.
func size(line string) int { return len(strconv.Itoa(len(line))+":"+line) + len("\n.") }

// cut is the line that cuts power when just so many bytes are written.
func cut(bytes int) string { return "cut " + strconv.Itoa(bytes) }

// run a script that may be run.
func run(t *testing.T, lines ...string) []string {
	t.Helper()
	given := slices.Clone(lines)
	got, err := script.Run(given)
	if err != nil || len(got) != len(lines) {
		t.Fatalf("Run of %d lines: %d answers, %v", len(lines), len(got), err)
	}
	if !slices.Equal(given, lines) {
		t.Errorf("what was handed over is changed: %.200q, was %.200q", given, lines)
	}
	return got
}

// plays tells whether the lines of a script have these answers: a line, its
// answer, and so on. Twice: nothing is left of a script that was run.
func plays(t *testing.T, l ...string) {
	t.Helper()
	var lines, want []string
	for p := range slices.Chunk(l, 2) {
		lines, want = append(lines, p[0]), append(want, p[1])
	}
	for range 2 {
		got := run(t, lines...)
		for i := range want {
			if got[i] != want[i] {
				t.Errorf("line %d, %.60q: %.80q, want %.80q", i, lines[i], got[i], want[i])
			}
		}
	}
}

// behind lines, that have no error, these have these answers: a line, its answer,
// and so on.
func behind(t *testing.T, ahead []string, l ...string) {
	t.Helper()
	all := slices.Clone(ahead)
	for i := range l {
		if i%2 == 0 {
			all = append(all, l[i])
		}
	}
	got := run(t, all...)
	for i, line := range ahead {
		if strings.HasPrefix(got[i], "stillroom: ") {
			t.Fatalf("%.60q: %s", line, got[i])
		}
	}
	for i, answer := range got[len(ahead):] {
		if answer != l[2*i+1] {
			t.Errorf("line %d behind, %.60q: %.80q, want %.80q", i, l[2*i], answer, l[2*i+1])
		}
	}
}

// refuses wants this error's text of each line, and nothing changed by it.
func refuses(t *testing.T, ahead []string, want string, lines ...string) {
	t.Helper()
	for _, line := range lines {
		all := append(slices.Clone(ahead), told()...)
		was := run(t, all...)[len(ahead):]
		all = append(append(slices.Clone(ahead), line), told()...)
		now := run(t, all...)[len(ahead):]
		if now[0] != want {
			t.Errorf("%.60q: %.80q, want %q", line, now[0], want)
		}
		if !slices.Equal(now[1:], was) {
			t.Errorf("%.60q changed\n%.900q\nto\n%.900q", line, was, now[1:])
		}
	}
}

// told are lines that ask much of a store that has packs a and b.
func told() []string {
	l := strings.Fields("list roots scan free saved")
	for _, name := range []string{"a", "b"} {
		for _, word := range strings.Fields("refs users need files size") {
			l = append(l, word+" "+name)
		}
		l = append(l, "read "+name+" /", "follow "+name+" /")
	}
	for n := range 4 {
		l = append(l, fmt.Sprint("where ", n))
	}
	return append(l, "diff a b", "diff b a")
}
