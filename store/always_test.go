package store_test

import (
	"fmt"
	"maps"
	"slices"
	"strconv"
	"strings"
	"testing"

	"stillroom/api"
	"stillroom/store"
	"stillroom/tree"
)

// draw makes numbers and trees from a number alone, so that each run sees the
// same ones.
type draw uint32

func (r *draw) below(n int) int {
	*r = *r*1664525 + 1013904223
	return int(*r>>16) % n
}

func (r *draw) one(l ...string) string { return l[r.below(len(l))] }

func (r *draw) name() string { return r.one("a", "ab", "a.b", "b", "c", "c-", "d", "e") }

// data are often alike, and often mention names.
func (r *draw) data() string {
	return r.one("", "x", "y z", "\n.", long(16), long(17), long(40), "#"+r.name(), "#"+r.name()+" #"+r.name(), "#"+r.name()+r.name())
}

func (r *draw) node(deep int) api.Node {
	switch r.below(6) {
	case 0:
		return link(r.one("x", "../#"+r.name(), "#"+r.name()))
	case 1, 2, 3:
		n := file(r.data())
		n.Exec = r.below(4) == 0
		return n
	}
	n := dir()
	if deep == 0 {
		return n
	}
	for _, name := range []string{"a", "b", "b-", "b.c"} {
		if r.below(2) == 0 {
			n.Kids = append(n.Kids, kid(name, r.node(deep-1)))
		}
	}
	return n
}

// pair is a store, and beside it the slow one.
type pair struct {
	*store.Store
	slow  *slow
	lines []string // the records
	left  int      // bytes of the Cut that waits; below 0 if there is none
}

// line is one to be done: its text, and how the slow store does it.
type line struct {
	text string
	do   func(s *slow) (string, error)
}

func done(err error) (string, error) {
	if err != nil {
		return "", err
	}
	return "ok", nil
}

// change is any line that changes something, or has an error.
func (r *draw) change(s *slow) line {
	name := r.name()
	switch r.below(20) {
	case 0, 1, 2, 3, 4, 5, 6:
		n := r.node(3)
		return line{add(name, n), func(s *slow) (string, error) { return done(s.add(name, n)) }}
	case 7, 8, 9:
		return line{"root " + name, func(s *slow) (string, error) { return done(s.root(name)) }}
	case 10, 11:
		return line{"unroot " + name, func(s *slow) (string, error) { return done(s.unroot(name)) }}
	case 12:
		return line{"gc", func(s *slow) (string, error) { return strconv.Itoa(s.gc()), nil }}
	case 13:
		return line{"opt", func(s *slow) (string, error) { return strconv.Itoa(s.opt()), nil }}
	case 14, 15, 16:
		k, bit := r.below(s.blocks+1), r.below(9) // a first byte's: often turned back
		return line{fmt.Sprintf("rot %d %d", k, bit), func(s *slow) (string, error) { return done(s.rot(k, bit)) }}
	case 17:
		text := r.one("", "what", "gc ", "add", "rot 00 0", "root", "mend 0", "list ", "unroot a b")
		return line{text, func(*slow) (string, error) { return "", api.ErrText }}
	}
	n, data := r.below(8), r.data()
	if x := s.inodes[n]; x != nil && r.below(3) > 0 {
		data = x.node.Data
	}
	return line{fmt.Sprintf("mend %d %s", n, data), func(s *slow) (string, error) { return done(s.mend(n, data)) }}
}

// does a line: the slow store, by the same document, has the same answer. It is
// tried there on a copy as well, since nothing may be changed with an error.
func (p *pair) does(t *testing.T, l line) {
	t.Helper()
	tried := p.slow.copy()
	want, wantErr := l.do(tried)
	size := len(record(l.text))
	fails := wantErr == nil && p.left >= 0 && size > p.left
	if fails {
		want, wantErr = "", api.ErrOff
	}
	tape := p.Tape().Bytes()
	if got, err := p.Do(l.text); got != want || err != wantErr {
		t.Fatalf("%q: %q, %v, want %q, %v", l.text, got, err, want, wantErr)
	}
	switch {
	case fails:
		holdsOff(t, p.Tape(), records(p.lines...)+record(l.text)[:p.left])
		p.fails(t)
	case wantErr != nil:
		holds(t, p.Tape(), tape)
	default:
		p.slow, p.lines = tried, append(p.lines, l.text)
		holds(t, p.Tape(), records(p.lines...))
		if p.left >= 0 {
			p.left -= size
		}
	}
}

// fails: power did. It comes back by Open, or by On alone: then what was begun
// stands there until the next record.
func (p *pair) fails(t *testing.T) {
	t.Helper()
	back := p.left%2 == 0
	p.left = -1
	if back {
		p.open(t)
		return
	}
	p.Tape().On()
}

// open goes on with the store that is opened from the tape.
func (p *pair) open(t *testing.T) {
	t.Helper()
	x := open(t, p.Tape(), p.slow.blocks)
	if !store.Same(x, p.Store) || told(x) != told(p.Store) {
		t.Fatalf("opened anew, what was\n%s\nis\n%s", told(p.Store), told(x))
	}
	p.Store, p.left = x, -1
	holds(t, p.Tape(), records(p.lines...))
}

// asks all that can be asked.
func (p *pair) asks(t *testing.T) {
	t.Helper()
	s := p.slow
	say := func(l []string) string {
		if len(l) == 0 {
			return "nothing"
		}
		return strings.Join(l, " ")
	}
	var names []string
	for _, x := range s.packs {
		names = append(names, x.name)
		found := map[string]bool{}
		s.need(x.name, found)
		answers(t, p.Store, "refs "+x.name, say(x.refs), "users "+x.name, say(s.users(x.name)), "need "+x.name, say(slices.Sorted(maps.Keys(found))))
		p.reads(t, x)
	}
	answers(t, p.Store, "list", say(names), "roots", say(slices.Sorted(maps.Keys(s.roots))), "scan", say(s.rotten()),
		"free", strconv.Itoa(len(s.free())), "saved", strconv.Itoa(s.saved()))
	for n := range 12 {
		answers(t, p.Store, fmt.Sprint("where ", n), say(s.where(n)))
	}
	rootsAre(t, p.Store, slices.Sorted(maps.Keys(s.roots))...)
	statsAre(t, p.Store, s.stats()...)
	p.packs(t)
}

// reads each file of a pack, or none.
func (p *pair) reads(t *testing.T, x slowPack) {
	t.Helper()
	whole := p.slow.whole(x)
	for _, f := range x.files {
		got, err := p.Do("read " + x.name + " " + f.path)
		if whole && (got != fileAt(x.node, f.path).Data || err != nil) || !whole && (got != "" || err != api.ErrSum) {
			t.Errorf("read %s %s: %q, %v, whole is %v", x.name, f.path, got, err, whole)
		}
	}
}

func (p *pair) packs(t *testing.T) {
	t.Helper()
	var want []api.Pack
	for _, x := range p.slow.packs {
		if !p.slow.whole(x) {
			if l, err := p.Packs(); l != nil || err != api.ErrSum {
				t.Errorf("Packs: %v, %v", l, err)
			}
			return
		}
		want = append(want, api.Pack{Name: x.name, Refs: x.refs, Tree: tree.Copy(x.node)})
	}
	packsAre(t, p.Store, want...)
}

// P140 to P143: any lines, with power that fails now and then, held against the
// slow store; opened anew it is always the one that was there.
func TestAlwaysAsTheSlowStore(t *testing.T) {
	var r draw = 143
	for _, blocks := range []int{1, 5, 12, 30, 100} {
		p := &pair{newStore(t, blocks), newSlow(blocks), nil, -1}
		for i := range 800 {
			switch r.below(12) {
			case 0:
				p.open(t)
			case 1:
				p.left = r.below(60)
				cut(t, p.Store, p.left)
			}
			p.does(t, r.change(p.slow))
			p.asks(t)
			if i%7 == 0 {
				opens(t, p.Store, blocks)
			}
			if t.Failed() {
				t.Fatal(blocks, i)
			}
		}
	}
}
