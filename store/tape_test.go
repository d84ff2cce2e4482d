package store_test

import (
	"strings"
	"testing"

	"stillroom/api"
	"stillroom/store"
	"stillroom/tape"
)

// changes are lines that change something, each behind those ahead of it.
func changes() []string {
	return []string{
		"add lib d2:1:af5:hello1:bf5:hello", "add app f9:#lib\n #me", "root app", "opt", "rot 0 3", "mend 0 hello",
		"add old f1:x", "gc", "root lib", "unroot app", "gc", "opt", "gc", "add new f17:" + strings.Repeat("z", 17), "rot 9 9",
	}
}

// Each is a record, with its bytes as they are; also where it has nothing to do.
func TestEachChangeIsARecord(t *testing.T) {
	s := newStore(t, 10)
	d := s.Tape()
	holds(t, d, "")
	for i, line := range changes() {
		does(t, s, line)
		holds(t, d, records(changes()[:i+1]...))
		opens(t, s, 10)
	}
	if s.Tape() != d {
		t.Error("the tape is another one now")
	}
	l, n := tape.Read(d.Bytes())
	if len(l) != len(changes()) || n != len(d.Bytes()) {
		t.Errorf("%d records, %d bytes", len(l), n)
	}
}

// An error of the line's own is told ahead of the tape's.
func TestPowerIsOff(t *testing.T) {
	s := newStore(t, 10, "add a f1:x", "add b f1:x", "root a", "add c f1:y", "rot 2 0")
	cut(t, s, 0)
	off(t, s, "gc")
	refuses(t, s, api.ErrOff, "add d f1:x", "root b", "unroot a", "gc", "opt", "rot 0 0", "rot 9 0", "mend 2 y")
	refuses(t, s, api.ErrText, "", "add d", "gc ", "rot 01 0")
	refuses(t, s, api.ErrNone, "root d", "unroot b", "mend 5 x", "read d /")
	refuses(t, s, api.ErrExist, "add a f1:x", "root a", "mend 0 x")
	refuses(t, s, api.ErrFull, add("d", file(long(200))))
	refuses(t, s, api.ErrSum, "mend 2 z", "read c /")
	refuses(t, s, api.ErrBound, "rot 10 0", "add d l0:")
	answers(t, s, "list", "a b c", "roots", "a", "scan", "2", "free", "7", "saved", "0", "read a /", "x")
	opens(t, s, 10)
	// Power is there again: all goes on.
	s.Tape().On()
	answers(t, s, "mend 2 y", "ok", "opt", "1", "gc", "2", "list", "a", "read a /", "x")
	opens(t, s, 10)
}

// In each line, ahead of each byte of its record.
func TestPowerFails(t *testing.T) {
	for i, line := range changes() {
		for n := range len(record(line)) {
			s := newStore(t, 10, changes()[:i]...)
			cut(t, s, n)
			off(t, s, line)
			if got, want := s.Tape().Bytes(), records(changes()[:i]...)+record(line)[:n]; got != want {
				t.Errorf("%q, want %q", got, want)
			}
			refuses(t, s, api.ErrOff, line)
			opens(t, s, 10)
		}
		s := newStore(t, 10, changes()[:i]...)
		cut(t, s, len(record(line)))
		does(t, s, line)
		off(t, s, "gc")
		opens(t, s, 10)
	}
}

// A line with an error needs no byte of a Cut.
func TestErrorsDoNotWakeACut(t *testing.T) {
	s := newStore(t, 10)
	cut(t, s, len(record("add a f0:"))+1)
	refuses(t, s, api.ErrName, "add A f0:")
	refuses(t, s, api.ErrNone, "root a", "unroot a", "mend 0 x")
	refuses(t, s, api.ErrText, "what", "gc 1")
	does(t, s, "list", "add a f0:")
	off(t, s, "root a")
	holdsOff(t, s.Tape(), record("add a f0:")+"6")
}

func holdsOff(t *testing.T, d *tape.Disk, want string) {
	t.Helper()
	if got := d.Bytes(); got != want || d.Power() {
		t.Errorf("%q, power is %v, want %q", got, d.Power(), want)
	}
}

// Power comes back by On alone, behind a record that was begun: what is done from
// then on is there when the store is opened anew.
func TestOnBehindARecordThatWasBegun(t *testing.T) {
	line := "add lib d1:1:af5:hello"
	for n := range len(record(line)) {
		s := newStore(t, 10, "add a f1:x")
		cut(t, s, n)
		off(t, s, line)
		s.Tape().On()
		opens(t, s, 10)
		does(t, s, "list") // asks nothing of the tape
		answers(t, s, "gc", "1", line, "ok", "root lib", "ok")
		holds(t, s.Tape(), records("add a f1:x", "gc", line, "root lib"))
		opens(t, s, 10)
	}
}

// And again, in the record that comes in its place.
func TestOnAndCutAgain(t *testing.T) {
	for first := range len(record("root a")) {
		for second := range len(record("gc")) {
			s := newStore(t, 10, "add a f1:x", "add b f1:x")
			cut(t, s, first)
			off(t, s, "root a")
			s.Tape().On()
			cut(t, s, second)
			off(t, s, "gc")
			opens(t, s, 10)
			s.Tape().On()
			refuses(t, s, api.ErrNone, "unroot a", "root c")
			answers(t, s, "opt", "1", "gc", "2", "list", "nothing")
			holds(t, s.Tape(), records("add a f1:x", "add b f1:x", "opt", "gc"))
			opens(t, s, 10)
		}
	}
}

// full has that many bytes, of records that ask only: no store changes by them.
func full(t *testing.T, size int) string {
	t.Helper()
	ask, where := record("list"), record("where 0") // 8 bytes, and 11
	b := ""
	for len(b)%8 != size%8 {
		b += where
	}
	b += strings.Repeat(ask, (size-len(b))/8)
	if len(b) != size {
		t.Fatal(len(b), size)
	}
	return b
}

// fullStore has packs a, a root, and b, and room for so many bytes on its tape.
func fullStore(t *testing.T, room int) *store.Store {
	t.Helper()
	lines := records("add a f1:x", "root a", "add b f1:x")
	return open(t, newTape(t, lines+full(t, api.MaxBytes-room-len(lines))), 9)
}

func TestTapeIsFull(t *testing.T) {
	s := fullStore(t, 0)
	refuses(t, s, api.ErrFull, "add c f0:", "root b", "unroot a", "gc", "opt", "rot 0 0")
	refuses(t, s, api.ErrExist, "root a", "mend 0 x", "add a f0:")
	refuses(t, s, api.ErrNone, "unroot b")
	refuses(t, s, api.ErrText, "what", "rot 00 0")
	answers(t, s, "list", "a b", "roots", "a", "read b /", "x", "free", "7", "saved", "0")
	cut(t, s, 0)
	refuses(t, s, api.ErrFull, "gc") // has no room, so that the Cut is not met
	holds(t, s.Tape(), s.Tape().Bytes())
}

func TestTapeHasRoomForJustOne(t *testing.T) {
	s := fullStore(t, len(record("root b"))-1)
	refuses(t, s, api.ErrFull, "root b", "rot 0 0", "unroot a")
	answers(t, s, "gc", "1", "list", "a") // a lesser one
	refuses(t, s, api.ErrFull, "gc")

	s = fullStore(t, len(record("root b")))
	refuses(t, s, api.ErrFull, "unroot a")
	answers(t, s, "root b", "ok", "roots", "a b")
	refuses(t, s, api.ErrFull, "gc")
	if len(s.Tape().Bytes()) != api.MaxBytes {
		t.Error(len(s.Tape().Bytes()))
	}
	opens(t, s, 9)
}
