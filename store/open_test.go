package store_test

import (
	"errors"
	"testing"

	"stillroom/api"
	"stillroom/plain"
	"stillroom/store"
	"stillroom/tape"
)

func TestOpenOfNoRecords(t *testing.T) {
	for _, b := range []string{"", "x", "1:", "add a f0:", "4:list\n", "04:list\n."} {
		s := open(t, newTape(t, b), 9)
		holds(t, s.Tape(), "")
		if !store.Same(s, newStore(t, 9)) {
			t.Errorf("%q: not as a new one", b)
		}
		answers(t, s, "add a f1:x", "ok", "read a /", "x", "free", "8")
		holds(t, s.Tape(), records("add a f1:x"))
	}
}

func TestOpenOfMany(t *testing.T) {
	s := open(t, newTape(t, records(changes()...)), 10)
	was := newStore(t, 10, changes()...)
	if !store.Same(s, was) || all(s) != all(was) {
		t.Errorf("%s, want %s", all(s), all(was))
	}
	opens(t, s, 10)
	opens(t, was, 10)
}

// Records that only ask are done as well, and change nothing.
func TestOpenOfRecordsThatAsk(t *testing.T) {
	b := records("list", "add a f1:x", "read a /", "where 0", "root a", "roots", "free")
	s := open(t, newTape(t, b), 9)
	holds(t, s.Tape(), b)
	if !store.Same(s, newStore(t, 9, "add a f1:x", "root a")) {
		t.Error(all(s))
	}
}

// Each error, at its record's number; and then the tape is as it was.
func TestOpenOfARecordWithAnError(t *testing.T) {
	for _, c := range []struct {
		want  error
		lines []string // the last one has the error
	}{
		{api.ErrText, []string{""}},
		{api.ErrText, []string{"what"}},
		{api.ErrText, []string{"list", "add a f1:x", "list "}},
		{api.ErrText, []string{"add a f1:xy"}},
		{api.ErrText, []string{"add a f1:x", "rot 00 0"}},
		{api.ErrName, []string{"list", "add A f0:"}},
		{api.ErrExist, []string{"add a f0:", "gc", "add a f0:", "add a f0:"}},
		{api.ErrNone, []string{"add a f0:", "root a", "root b"}},
		{api.ErrNone, []string{"add a f0:", "unroot a"}},
		{api.ErrNone, []string{"read a /"}},
		{api.ErrExist, []string{"add a f0:", "root a", "root a"}},
		{api.ErrFull, []string{add("a", file(long(144))), "add b f1:x"}},
		{api.ErrBound, []string{"add a l0:"}},
		{api.ErrBound, []string{"list", "rot 9 0"}},
		{api.ErrSum, []string{"add a f1:x", "rot 0 0", "mend 0 y"}},
		{api.ErrExist, []string{"add a f1:x", "mend 0 x"}},
		{api.ErrOrder, []string{"add a d2:1:bf0:1:af0:"}},
	} {
		for _, more := range [][]string{nil, {"list"}, {"what", "add z f0:"}} {
			b := records(c.lines...) + records(more...) + "9:list"
			d := newTape(t, b)
			opensNot(t, d, 9, c.want, len(c.lines)-1)
			holds(t, d, b)
		}
	}
}

// opensNot wants an *api.Fault, of which the error is bare.
func opensNot(t *testing.T, d *tape.Disk, blocks int, want error, at int) {
	t.Helper()
	s, err := store.Open(d, blocks)
	var f *api.Fault
	if s != nil || !errors.As(err, &f) || f.At != at || f.Err != want {
		code, place := plain.Code(err)
		t.Errorf("Open: %v, error %d at %d, want %v at %d", s, code, place, want, at)
	}
}

// A call that answers an error changes nothing: power stays off.
func TestOpenWithAnErrorLeavesTheTape(t *testing.T) {
	d := newTape(t, records("add a f1:x", "what"))
	if err := d.Cut(3); err != nil {
		t.Fatal(err)
	}
	opensNot(t, d, 9, api.ErrText, 1)
	if err := tape.Append(d, "list"); err != api.ErrOff {
		t.Errorf("the Cut does not wait any more: %v", err)
	}
	opensNot(t, d, 9, api.ErrText, 1)
	holdsOff(t, d, records("add a f1:x", "what")+"4:l")
	if s, err := store.Open(d, 0); s != nil || err != api.ErrBound {
		t.Error(s, err)
	}
	holdsOff(t, d, records("add a f1:x", "what")+"4:l")
}

// Ahead of what the tape tells.
func TestOpenOfWrongBlocks(t *testing.T) {
	for _, n := range append(wrongs(), 1, 9) {
		if s, err := store.Open(nil, n); s != nil || err != api.ErrShape {
			t.Errorf("Open(nil, %d): %v, %v", n, s, err)
		}
	}
	for _, n := range wrongs() {
		for _, b := range []string{"", records("what"), records("add a f0:") + "x"} {
			d := newTape(t, b)
			if s, err := store.Open(d, n); s != nil || err != api.ErrBound {
				t.Errorf("Open(%q, %d): %v, %v", b, n, s, err)
			}
			holds(t, d, b)
		}
	}
}

// With fewer blocks a line finds no room that had some, or no block; with more it
// is another store, but for what lines tell of packs.
func TestOpenOfOtherBlocks(t *testing.T) {
	s := newStore(t, 9, "add a f1:x", add("b", file(long(40))), "rot 8 0")
	b := s.Tape().Bytes()
	opensNot(t, newTape(t, b), 3, api.ErrFull, 1)
	opensNot(t, newTape(t, b), 4, api.ErrBound, 2)
	x := open(t, newTape(t, b), 20)
	answers(t, x, "free", "16", "list", "a b", "read b /", long(40))
}

// At each byte of a tape: what is whole is done, the rest goes.
func TestOpenOfATapeThatWasCut(t *testing.T) {
	b := records(changes()...)
	for n := range len(b) + 1 {
		done := 0
		for done < len(changes()) && len(records(changes()[:done+1]...)) <= n {
			done++
		}
		d := newTape(t, b[:n])
		s := open(t, d, 10)
		holds(t, d, records(changes()[:done]...))
		if !store.Same(s, newStore(t, 10, changes()[:done]...)) {
			t.Errorf("%d bytes: %s", n, all(s))
		}
		does(t, s, changes()[done:]...)
		holds(t, d, b)
	}
}

// Power is there again, and no Cut waits.
func TestOpenBringsPowerBack(t *testing.T) {
	s := newStore(t, 9, "add a f1:x")
	cut(t, s, 4)
	off(t, s, "root a")
	x := open(t, s.Tape(), 9)
	holds(t, x.Tape(), records("add a f1:x"))
	cut(t, x, 0)
	x = open(t, x.Tape(), 9)
	answers(t, x, "roots", "nothing", "root a", "ok", "gc", "0", "list", "a")
	holds(t, x.Tape(), records("add a f1:x", "root a", "gc"))
	opens(t, x, 9)
}

// What Open makes goes on as the one that was there: line by line, with the same
// answers, and the same numbers and blocks.
func TestOpenGoesOn(t *testing.T) {
	for done := range len(changes()) + 1 {
		was := newStore(t, 10, changes()[:done]...)
		now := open(t, newTape(t, was.Tape().Bytes()), 10)
		for _, line := range append(changes()[done:], "add a f3:abc", "add b f2:#a", "root b", "opt", "gc", "rot 1 1", "root zz", "what") {
			a, errA := was.Do(line)
			b, errB := now.Do(line)
			if a != b || errA != errB || all(was) != all(now) || !store.Same(was, now) {
				t.Fatalf("%q: %q, %v\n%s\nwas %q, %v\n%s", line, b, errB, all(now), a, errA, all(was))
			}
		}
		opens(t, now, 10)
	}
}
