package tape_test

import (
	"testing"

	"stillroom/api"
	"stillroom/tape"
)

func resumes(t *testing.T, d *tape.Disk, l ...string) {
	t.Helper()
	for _, s := range l {
		if err := tape.Resume(d, s); err != nil {
			t.Fatalf("Resume(%.40q): %v", s, err)
		}
	}
}

// resumeFails wants a bare error.
func resumeFails(t *testing.T, d *tape.Disk, s string, want error) {
	t.Helper()
	if err := tape.Resume(d, s); err != want {
		t.Errorf("Resume(%.40q): %v, want %v", s, err, want)
	}
}

// Where no power failed it is Append, also behind what is no record.
func TestResumeIsAppend(t *testing.T) {
	d := newDisk(t, "abc")
	resumes(t, d, "", "a\n.b")
	appends(t, d, "x")
	resumes(t, d, "y")
	holds(t, d, true, "abc"+records(texts("", "a\n.b", "x", "y")))
	long := bytes(api.MaxText + 1)
	resumeFails(t, nil, "", api.ErrShape)
	resumeFails(t, nil, long, api.ErrShape)
	resumeFails(t, d, long, api.ErrBound)
	resumeFails(t, newDisk(t, bytes(api.MaxBytes-3)), "", api.ErrFull)
	resumes(t, newDisk(t, bytes(api.MaxBytes-4)), "")
	resumes(t, newDisk(t, ""), bytes(api.MaxText))
}

// At each byte: what was begun goes, and nothing else.
func TestResumeBehindOn(t *testing.T) {
	for _, s := range nasty() {
		for n := range len(record(s)) {
			d := newDisk(t, "")
			appends(t, d, "a")
			cut(t, d, n)
			resumeFails(t, d, s, api.ErrOff)
			begun := record("a") + record(s)[:n]
			holds(t, d, false, begun)
			resumeFails(t, d, "b", api.ErrOff)
			resumeFails(t, d, bytes(api.MaxText+1), api.ErrBound)
			holds(t, d, false, begun)
			d.On()
			resumeFails(t, d, bytes(api.MaxText+1), api.ErrBound)
			holds(t, d, true, begun)
			resumes(t, d, "b", s)
			holds(t, d, true, records(texts("a", "b", s)))
			recovers(t, d, "a", "b", s)
		}
	}
}

// Power fails again, in the record that comes in the place of the other one.
func TestResumeAndCutAgain(t *testing.T) {
	for first := range 6 {
		for second := range 5 {
			d := newDisk(t, record("a"))
			cut(t, d, first)
			resumeFails(t, d, "bcd", api.ErrOff)
			d.On()
			cut(t, d, second) // waits on where what was begun goes
			resumeFails(t, d, "x", api.ErrOff)
			holds(t, d, false, record("a")+record("x")[:second])
			d.On()
			resumes(t, d, "y")
			recovers(t, d, "a", "y")
		}
	}
}

// What Append wrote behind what was begun is not read: it goes too.
func TestResumeBehindAppend(t *testing.T) {
	for n := 1; n < len(record("bc")); n++ {
		d := newDisk(t, "")
		appends(t, d, "a")
		cut(t, d, n)
		refuses(t, d, "bc", api.ErrOff)
		d.On()
		appends(t, d, "d", "e")
		cut(t, d, 1)
		refuses(t, d, "f", api.ErrOff)
		holds(t, d, false, record("a")+record("bc")[:n]+"1:d\n.1:e\n.1")
		d.On()
		resumes(t, d, "g")
		holds(t, d, true, "1:a\n.1:g\n.")
	}
}

// Recover has let it go already.
func TestResumeBehindRecover(t *testing.T) {
	d := newDisk(t, "")
	appends(t, d, "a")
	cut(t, d, 3)
	refuses(t, d, "bc", api.ErrOff)
	recovers(t, d, "a")
	appends(t, d, "d")
	resumes(t, d, "e")
	recovers(t, d, "a", "d", "e")
}

// What was begun takes no room where power is there; with no room all stays.
func TestResumeRoom(t *testing.T) {
	full := bytes(api.MaxBytes - 10)
	d := newDisk(t, full)
	cut(t, d, 4)
	refuses(t, d, "abcdef", api.ErrOff)
	resumeFails(t, d, "abcdef", api.ErrFull)
	d.On()
	resumeFails(t, d, "abcdefg", api.ErrFull)
	holds(t, d, true, full+"6:ab")
	resumes(t, d, "uvwxyz")
	holds(t, d, true, full+"6:uvwxyz\n.")
}
