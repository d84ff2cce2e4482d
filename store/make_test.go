package store_test

import (
	"fmt"
	"slices"
	"strconv"
	"strings"
	"testing"

	"stillroom/api"
	"stillroom/inode"
	"stillroom/pack"
	"stillroom/store"
	"stillroom/tape"
	"stillroom/tree"
)

func file(data string) api.Node { return api.Node{Kind: "file", Data: data} }

func runs(data string) api.Node { return api.Node{Kind: "file", Data: data, Exec: true} }

func link(to string) api.Node { return api.Node{Kind: "link", Data: to} }

func dir(kids ...api.Kid) api.Node { return api.Node{Kind: "dir", Kids: kids} }

func kid(name string, n api.Node) api.Kid { return api.Kid{Name: name, Node: n} }

// add is the line that adds a tree.
func add(name string, n api.Node) string { return "add " + name + " " + pack.Text(n) }

// long has that many bytes, and no two blocks of it are alike.
func long(n int) string {
	b := make([]byte, n)
	for i := range b {
		b[i] = byte(1 + (i+i/api.BlockSize)%255)
	}
	return string(b)
}

// record is written here by the words of the document.
func record(s string) string { return strconv.Itoa(len(s)) + ":" + s + "\n." }

func records(lines ...string) string {
	all := ""
	for _, s := range lines {
		all += record(s)
	}
	return all
}

func newStore(t *testing.T, blocks int, lines ...string) *store.Store {
	t.Helper()
	s, err := store.New(blocks)
	if err != nil || s == nil {
		t.Fatalf("New(%d): %v, %v", blocks, s, err)
	}
	does(t, s, lines...)
	return s
}

// does lines that have no error.
func does(t *testing.T, s *store.Store, lines ...string) {
	t.Helper()
	for _, line := range lines {
		if _, err := s.Do(line); err != nil {
			t.Fatalf("%.60q: %v", line, err)
		}
	}
}

// answers tells whether lines have these answers: a line, its answer, and so on.
func answers(t *testing.T, s *store.Store, l ...string) {
	t.Helper()
	for p := range slices.Chunk(l, 2) {
		if got, err := s.Do(p[0]); got != p[1] || err != nil {
			t.Errorf("%.60q: %.80q, %v, want %.80q", p[0], got, err, p[1])
		}
	}
}

// refuses wants the very error, since places are left aside: and then nothing is
// changed, neither of what is told nor on the tape.
func refuses(t *testing.T, s *store.Store, want error, lines ...string) {
	t.Helper()
	for _, line := range lines {
		was := all(s)
		if got, err := s.Do(line); got != "" || err != want {
			t.Errorf("%.60q: %.60q, %v, want %v", line, got, err, want)
		}
		if now := all(s); now != was {
			t.Errorf("%.60q changed\n%.3000s\nto\n%.3000s", line, was, now)
		}
	}
}

// off wants ErrOff: then nothing is changed but what power that fails leaves on
// the tape.
func off(t *testing.T, s *store.Store, line string) {
	t.Helper()
	was := told(s)
	if got, err := s.Do(line); got != "" || err != api.ErrOff {
		t.Errorf("%.60q: %q, %v, want %v", line, got, err, api.ErrOff)
	}
	if now := told(s); now != was || s.Tape().Power() {
		t.Errorf("%.60q: power is %v; changed\n%.3000s\nto\n%.3000s", line, s.Tape().Power(), was, now)
	}
}

func cut(t *testing.T, s *store.Store, n int) {
	t.Helper()
	if err := s.Tape().Cut(n); err != nil {
		t.Fatalf("Cut(%d): %v", n, err)
	}
}

// holds tells whether just these bytes are on a tape, and power is there.
func holds(t *testing.T, d *tape.Disk, want string) {
	t.Helper()
	if got := d.Bytes(); got != want || !d.Power() {
		t.Errorf("%d bytes %.80q, power is %v, want %d %.80q", len(got), got, d.Power(), len(want), want)
	}
}

func newTape(t *testing.T, b string) *tape.Disk {
	t.Helper()
	d, err := tape.NewDisk(b)
	if err != nil {
		t.Fatalf("NewDisk of %d bytes: %v", len(b), err)
	}
	return d
}

// open a tape, and tell whether it is the store's own from now on.
func open(t *testing.T, d *tape.Disk, blocks int) *store.Store {
	t.Helper()
	s, err := store.Open(d, blocks)
	if err != nil || s == nil {
		t.Fatalf("Open: %v, %v", s, err)
	}
	if s.Tape() != d || !d.Power() {
		t.Errorf("Open: another tape, or no power: %v", d.Power())
	}
	return s
}

// opens tells whether a store that is opened from these bytes is the one that is
// there, by Same and by all that lines tell.
func opens(t *testing.T, s *store.Store, blocks int) {
	t.Helper()
	x := open(t, newTape(t, s.Tape().Bytes()), blocks)
	if !store.Same(s, x) || !store.Same(x, s) {
		t.Errorf("opened anew it is not the same")
	}
	if was, now := told(s), told(x); was != now {
		t.Errorf("opened anew, what was\n%s\nis\n%s", was, now)
	}
}

// all that calls can tell of a store.
func all(s *store.Store) string {
	return fmt.Sprintf("%s\n%v %q", told(s), s.Tape().Power(), s.Tape().Bytes())
}

// told is all but the tape.
func told(s *store.Store) string {
	var b strings.Builder
	ask := func(line string) string {
		answer, err := s.Do(line)
		fmt.Fprintf(&b, "%s: %q %v\n", line, answer, err)
		return answer
	}
	for name := range strings.SplitSeq(ask("list"), " ") {
		for _, line := range []string{"refs ", "users ", "need "} {
			ask(line + name)
		}
		ask("read " + name + " /")
	}
	for _, line := range []string{"roots", "scan", "free", "saved"} {
		ask(line)
	}
	for n := range 20 {
		ask("where " + strconv.Itoa(n))
	}
	packs, err := s.Packs()
	fmt.Fprintf(&b, "%v %v %q %v", packs, err, s.Roots(), s.Stats())
	return b.String()
}

// names of packs, in order: p0, p1, and so on, to which zeros are filled up, so
// that they rise.
func names(n int) []string {
	var l []string
	for i := range n {
		l = append(l, fmt.Sprintf("p%02d", i))
	}
	return l
}

// packsAre tells whether a store has these packs.
func packsAre(t *testing.T, s *store.Store, want ...api.Pack) {
	t.Helper()
	got, err := s.Packs()
	if err != nil || !slices.EqualFunc(got, want, samePack) {
		t.Errorf("Packs: %v, %v, want %v", got, err, want)
	}
}

func samePack(a, b api.Pack) bool {
	return a.Name == b.Name && slices.Equal(a.Refs, b.Refs) && tree.Same(a.Tree, b.Tree)
}

func statsAre(t *testing.T, s *store.Store, want ...inode.Stat) {
	t.Helper()
	if got := s.Stats(); fmt.Sprint(got) != fmt.Sprint(want) {
		t.Errorf("Stats: %v, want %v", got, want)
	}
}

func rootsAre(t *testing.T, s *store.Store, want ...string) {
	t.Helper()
	if got := s.Roots(); !slices.Equal(got, want) {
		t.Errorf("Roots: %q, want %q", got, want)
	}
}
