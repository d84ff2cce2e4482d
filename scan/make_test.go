package scan_test

import (
	"slices"
	"strings"
	"testing"

	"stillroom/api"
	"stillroom/scan"
)

func file(data string) api.Node { return api.Node{Kind: "file", Data: data} }

func runs(data string) api.Node { return api.Node{Kind: "file", Data: data, Exec: true} }

func link(to string) api.Node { return api.Node{Kind: "link", Data: to} }

func dir(kids ...api.Kid) api.Node { return api.Node{Kind: "dir", Kids: kids} }

func kid(name string, n api.Node) api.Kid { return api.Kid{Name: name, Node: n} }

func names(l ...string) []string { return l }

func bytes(n int) string { return strings.Repeat("x", n) }

// nameBytes are all bytes that a name may have.
const nameBytes = "abcdefghijklmnopqrstuvwxyz0123456789.-"

// nones are no names: of no bytes, dots, too long, or with a byte that none has.
func nones() []string {
	return names("", ".", "..", "A", "aB", "a b", "a ", " a", "#", "#a", "a#", "a#b", "a/b", "a_b", "a,", "a\x00", "a\n", "é", "a\xff", bytes(api.MaxName+1), strings.Repeat(".", api.MaxName+1), bytes(5000))
}

// finds wants names, told with a blank between.
func finds(t *testing.T, s string, of []string, want string) {
	t.Helper()
	was := slices.Clone(of)
	if got := scan.Find(s, of); strings.Join(got, " ") != want {
		t.Errorf("Find(%.80q, %q): %q, want %s", s, of, got, want)
	}
	if !slices.Equal(of, was) {
		t.Errorf("names are %q, were %q", of, was)
	}
}

func needs(t *testing.T, about string, n api.Node, of []string, want string) {
	t.Helper()
	was := slices.Clone(of)
	if got := scan.Refs(n, of); strings.Join(got, " ") != want {
		t.Errorf("%s: Refs of %q: %q, want %s", about, of, got, want)
	}
	if !slices.Equal(of, was) {
		t.Errorf("%s: names are %q, were %q", about, of, was)
	}
}

func turns(t *testing.T, s, from, to, want string) {
	t.Helper()
	if got, err := scan.Turn(s, from, to); got != want || err != nil {
		t.Errorf("Turn(%.80q, %q, %q): %.80q, %v, want %.80q", s, from, to, got, err, want)
	}
}

// refuses wants a bare error, and no text beside it.
func refuses(t *testing.T, s, from, to string, want error) {
	t.Helper()
	if got, err := scan.Turn(s, from, to); got != "" || err != want {
		t.Errorf("Turn(%d bytes, %q, %q): %.80q, %v, want %v", len(s), from, to, got, err, want)
	}
}

// draw makes numbers from a number alone, so that each run sees the same ones.
type draw uint32

func (d *draw) below(n int) int {
	*d = *d*1664525 + 1013904223
	return int(*d>>16) % n
}

func (d *draw) one(l []string) string { return l[d.below(len(l))] }
