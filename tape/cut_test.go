package tape_test

import (
	"math"
	"testing"

	"stillroom/api"
	"stillroom/tape"
)

func TestCutInARecord(t *testing.T) {
	for _, c := range []struct{ about, left string }{
		{"ahead of all", ""},
		{"in the number", "1"},
		{"ahead of the colon", "12"},
		{"behind the colon", "12:"},
		{"in the text", "12:h"},
		{"ahead of the text's last byte", "12:hello, worl"},
		{"ahead of the line end", "12:hello, world"},
		{"ahead of the dot", "12:hello, world\n"},
	} {
		d := newDisk(t, "1:x\n.")
		cut(t, d, len(c.left))
		t.Log(c.about)
		holds(t, d, true, "1:x\n.")
		refuses(t, d, "hello, world", api.ErrOff)
		holds(t, d, false, "1:x\n."+c.left)
		reads(t, c.about, d.Bytes(), 5, "x")
		recovers(t, d, "x")
	}
}

// Power fails ahead of a byte, not behind one: a record of just so many bytes is
// whole, and the next one fails ahead of its first byte.
func TestCutOfJustARecord(t *testing.T) {
	for _, s := range nasty() {
		size := len(record(s))
		d := newDisk(t, "")
		cut(t, d, size)
		appends(t, d, s)
		holds(t, d, true, record(s))
		refuses(t, d, "", api.ErrOff)
		holds(t, d, false, record(s))
		recovers(t, d, s)

		d = newDisk(t, "")
		cut(t, d, size-1)
		refuses(t, d, s, api.ErrOff)
		holds(t, d, false, record(s)[:size-1])
		recovers(t, d)

		d = newDisk(t, "")
		cut(t, d, size+1)
		appends(t, d, s)
		refuses(t, d, "ab", api.ErrOff)
		holds(t, d, false, record(s)+"2")
		recovers(t, d, s)
	}
}

func TestCutOfSeveralRecords(t *testing.T) {
	d := newDisk(t, "")
	appends(t, d, "ahead") // is not counted: n begins with the Cut
	cut(t, d, 16)
	appends(t, d, "a", "b", "c")
	holds(t, d, true, "5:ahead\n.1:a\n.1:b\n.1:c\n.")
	refuses(t, d, "d", api.ErrOff)
	holds(t, d, false, "5:ahead\n.1:a\n.1:b\n.1:c\n.1")
	recovers(t, d, "ahead", "a", "b", "c")
}

func TestCutAtTheLastByteOfATape(t *testing.T) {
	full := bytes(api.MaxBytes - 5)
	d := newDisk(t, full)
	cut(t, d, 5)
	appends(t, d, "a")
	holds(t, d, true, full+"1:a\n.")
	d = newDisk(t, full)
	cut(t, d, 4)
	refuses(t, d, "a", api.ErrOff)
	holds(t, d, false, full+"1:a\n")
}

func TestCutRefuses(t *testing.T) {
	d := newDisk(t, "")
	for _, n := range []int{-1, -2, math.MinInt} {
		if err := d.Cut(n); err != api.ErrBound {
			t.Errorf("Cut(%d): %v", n, err)
		}
	}
	appends(t, d, "no Cut waits")
	cut(t, d, 0)
	refuses(t, d, "a", api.ErrOff)
	for _, n := range []int{0, 1, math.MaxInt} {
		if err := d.Cut(n); err != api.ErrOff {
			t.Errorf("Cut(%d): %v", n, err)
		}
	}
	if err := d.Cut(-1); err != api.ErrBound {
		t.Errorf("Cut(-1): %v", err)
	}
	d.On()
	appends(t, d, "no Cut waits")
	holds(t, d, true, records(texts("no Cut waits", "no Cut waits")))
}

// The last one counts, whether it comes sooner or later than the other.
func TestCutWhileAnotherWaits(t *testing.T) {
	for _, first := range []int{0, 1, 3, 5, 100, math.MaxInt} {
		d := newDisk(t, "")
		cut(t, d, first)
		cut(t, d, 7)
		appends(t, d, "a")
		refuses(t, d, "b", api.ErrOff)
		holds(t, d, false, "1:a\n.1:")
	}
	d := newDisk(t, "")
	cut(t, d, 8)
	appends(t, d, "a")
	cut(t, d, 8) // counted from here on
	appends(t, d, "b")
	refuses(t, d, "c", api.ErrOff)
	holds(t, d, false, "1:a\n.1:b\n.1:c")
}

func TestRefusedCutLeavesTheOther(t *testing.T) {
	d := newDisk(t, "")
	cut(t, d, 3)
	if err := d.Cut(-1); err != api.ErrBound {
		t.Error(err)
	}
	refuses(t, d, "a", api.ErrOff)
	holds(t, d, false, "1:a")
}

// What is refused ahead of its first byte uses up none of a Cut's bytes.
func TestRefusedRecordIsNotCounted(t *testing.T) {
	full := bytes(api.MaxBytes - 10)
	d := newDisk(t, full)
	cut(t, d, 6)
	refuses(t, d, bytes(api.MaxText+1), api.ErrBound)
	refuses(t, d, "1234567", api.ErrFull)
	appends(t, d, "a")
	refuses(t, d, "b", api.ErrOff)
	holds(t, d, false, full+"1:a\n.1")
}

func TestFarCut(t *testing.T) {
	d := newDisk(t, "")
	cut(t, d, math.MaxInt)
	appends(t, d, nasty()...)
	holds(t, d, true, records(nasty()))
}

func TestOnWithACutThatWaits(t *testing.T) {
	for _, n := range []int{0, 1, 4, 5, 6} {
		d := newDisk(t, "")
		cut(t, d, n)
		d.On()
		holds(t, d, true, "")
		appends(t, d, "a", "b")
		holds(t, d, true, "1:a\n.1:b\n.")
		cut(t, d, 1)
		refuses(t, d, "c", api.ErrOff)
		holds(t, d, false, "1:a\n.1:b\n.1")
	}
}

func TestOnWithPower(t *testing.T) {
	d := newDisk(t, "abc")
	d.On()
	d.On()
	holds(t, d, true, "abc")
}

// On does not read: what was begun stays, until Recover tells that it is none.
func TestOnLeavesTheBytes(t *testing.T) {
	d := newDisk(t, "")
	cut(t, d, 7)
	appends(t, d, "a")
	refuses(t, d, "bc", api.ErrOff)
	d.On()
	holds(t, d, true, "1:a\n.2:")
	appends(t, d, "d")
	holds(t, d, true, "1:a\n.2:1:d\n.")
	reads(t, "behind what was begun", d.Bytes(), 5, "a")

	d = newDisk(t, "")
	cut(t, d, 2)
	refuses(t, d, "bc", api.ErrOff)
	d.On()
	appends(t, d, "")
	reads(t, "a part of another text", d.Bytes(), 6, "0:")
}

func TestAppendsWhilePowerIsOff(t *testing.T) {
	d := newDisk(t, "")
	cut(t, d, 6)
	appends(t, d, "a")
	refuses(t, d, "b", api.ErrOff)
	for _, s := range append(nasty(), bytes(api.MaxText)) {
		refuses(t, d, s, api.ErrOff)
		holds(t, d, false, "1:a\n.1")
	}
	refuses(t, d, bytes(api.MaxText+1), api.ErrBound)
	recovers(t, d, "a")
	appends(t, d, "b")
	holds(t, d, true, "1:a\n.1:b\n.")
}

func TestReadWhilePowerIsOff(t *testing.T) {
	d := newDisk(t, "")
	cut(t, d, 8)
	appends(t, d, "a")
	refuses(t, d, "b", api.ErrOff)
	if l, n := tape.Read(d.Bytes()); len(l) != 1 || l[0] != "a" || n != 5 {
		t.Error(l, n)
	}
	holds(t, d, false, "1:a\n.1:b")
}
