package tape_test

import (
	"testing"

	"stillroom/api"
	"stillroom/tape"
)

func TestNewDisk(t *testing.T) {
	for _, b := range texts("", "a", "abc", "\x00\xff", "1:a\n.", "1:a\n.1:", bytes(api.MaxBytes-1), bytes(api.MaxBytes)) {
		holds(t, newDisk(t, b), true, b)
	}
	for _, b := range texts(bytes(api.MaxBytes+1), bytes(2*api.MaxBytes)) {
		if d, err := tape.NewDisk(b); d != nil || err != api.ErrBound {
			t.Errorf("NewDisk of %d bytes: %v, %v", len(b), d, err)
		}
	}
}

func TestAppend(t *testing.T) {
	for _, c := range []struct{ s, want string }{
		{"", "0:\n."},
		{"a", "1:a\n."},
		{"add a f1:x", "10:add a f1:x\n."},
		{"a\n.b", "4:a\n.b\n."},
		{"1:a\n.", "5:1:a\n.\n."},
		{"\n", "1:\n\n."},
		{"12:.", "4:12:.\n."},
		{"é", "2:é\n."}, // counted by bytes, not by runes
		{"\x00\xff", "2:\x00\xff\n."},
	} {
		d := newDisk(t, "")
		appends(t, d, c.s)
		holds(t, d, true, c.want)
	}
}

func TestAppendIsAtTheEnd(t *testing.T) {
	d := newDisk(t, "")
	want := ""
	for _, s := range nasty() {
		appends(t, d, s)
		want += record(s)
		holds(t, d, true, want)
	}
	d = newDisk(t, "abc") // also behind what is no record
	appends(t, d, "", "x")
	holds(t, d, true, "abc0:\n.1:x\n.")
}

func TestAppendMaxText(t *testing.T) {
	d := newDisk(t, "")
	appends(t, d, bytes(api.MaxText))
	refuses(t, d, bytes(api.MaxText+1), api.ErrBound)
	refuses(t, d, bytes(3*api.MaxBytes), api.ErrBound)
	holds(t, d, true, "20000:"+bytes(api.MaxText)+"\n.")
}

func TestAppendRoom(t *testing.T) {
	for _, s := range texts("", "a", bytes(9), bytes(10), bytes(api.MaxText)) {
		size := len(record(s))
		just := newDisk(t, bytes(api.MaxBytes-size))
		appends(t, just, s)
		holds(t, just, true, bytes(api.MaxBytes-size)+record(s))
		refuses(t, just, "", api.ErrFull)
		none := newDisk(t, bytes(api.MaxBytes-size+1))
		refuses(t, none, s, api.ErrFull)
		holds(t, none, true, bytes(api.MaxBytes-size+1))
	}
}

// A record of the least size still finds the room that a greater one did not.
func TestAppendBehindNoRoom(t *testing.T) {
	d := newDisk(t, bytes(api.MaxBytes-5))
	refuses(t, d, "ab", api.ErrFull)
	appends(t, d, "a")
	holds(t, d, true, bytes(api.MaxBytes-5)+"1:a\n.")
}

func TestAppendUpToTheLastByte(t *testing.T) {
	d := newDisk(t, "")
	n := 0
	for ; n < api.MaxBytes/4; n++ {
		appends(t, d, "")
	}
	refuses(t, d, "", api.ErrFull)
	if l, size := tape.Read(d.Bytes()); len(l) != n || size != api.MaxBytes {
		t.Error(len(l), size)
	}
}

func TestErrorsInTheirOrder(t *testing.T) {
	long := bytes(api.MaxText + 1)
	refuses(t, nil, "", api.ErrShape)
	refuses(t, nil, long, api.ErrShape)
	d := newDisk(t, bytes(api.MaxBytes-3))
	cut(t, d, 0)
	refuses(t, d, long, api.ErrBound)
	refuses(t, d, "", api.ErrFull) // has no room, so that the Cut is not met
	holds(t, d, true, bytes(api.MaxBytes-3))

	d = newDisk(t, bytes(api.MaxBytes-20))
	cut(t, d, 9)
	refuses(t, d, "123456", api.ErrOff)
	refuses(t, d, long, api.ErrBound)
	refuses(t, d, "12345678", api.ErrFull) // of one byte more than are left
	refuses(t, d, "1234567", api.ErrOff)
	holds(t, d, false, bytes(api.MaxBytes-20)+"6:123456\n")
}

func TestDisksAreApart(t *testing.T) {
	a, b := newDisk(t, "1:x\n."), newDisk(t, "1:x\n.")
	cut(t, a, 2)
	appends(t, b, "b")
	refuses(t, a, "a", api.ErrOff)
	holds(t, a, false, "1:x\n.1:")
	holds(t, b, true, "1:x\n.1:b\n.")
	was := b.Bytes()
	appends(t, b, "c")
	recovers(t, b, "x", "b", "c")
	if was != "1:x\n.1:b\n." {
		t.Errorf("what was told is now %q", was)
	}
}

// NewDisk answers a nil disk with an error: no call of it panics either.
func TestNoDisk(t *testing.T) {
	d, _ := tape.NewDisk(bytes(api.MaxBytes + 1))
	d.On()
	holds(t, d, false, "")
	if err := d.Cut(0); err != api.ErrOff {
		t.Errorf("Cut: %v", err)
	}
	if err := d.Cut(-1); err != api.ErrBound {
		t.Errorf("Cut: %v", err)
	}
	refuses(t, d, "a", api.ErrShape)
	if l, err := tape.Recover(d); l != nil || err != api.ErrShape {
		t.Errorf("Recover: %q, %v", l, err)
	}
	if l, err := tape.Recover(nil); l != nil || err != api.ErrShape {
		t.Errorf("Recover: %q, %v", l, err)
	}
}

func TestDiskByItsLiteral(t *testing.T) {
	d := &tape.Disk{}
	recovers(t, d)
	appends(t, d, "a")
	holds(t, d, true, "1:a\n.")
}
