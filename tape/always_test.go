package tape_test

import (
	"slices"
	"testing"

	"stillroom/api"
	"stillroom/tape"
)

// P132, at each byte of what is written: the texts look like records themselves,
// so that a cut one may look like another one.
func TestAlwaysWhereverPowerIsCut(t *testing.T) {
	all := nasty()
	for n := range len(records(all)) + 3 {
		d := newDisk(t, "")
		cut(t, d, n)
		var done []string
		for _, s := range all {
			if tape.Append(d, s) == nil {
				done = append(done, s)
			}
		}
		if len(records(done)) > n || len(done) < len(all) && len(records(all[:len(done)+1])) <= n {
			t.Errorf("a Cut of %d: %d records", n, len(done))
		}
		recovers(t, d, done...)
	}
}

// P132, twice: behind a tape that was recovered, at each byte again.
func TestAlwaysWhereverPowerIsCutAgain(t *testing.T) {
	a, b := "2:\n.", "0:\n.\n"
	for first := range len(record(a)) + 1 {
		for second := range len(record(b)) + 1 {
			d := newDisk(t, "")
			var done []string
			for i, s := range texts(a, b) {
				cut(t, d, []int{first, second}[i])
				if tape.Append(d, s) == nil {
					done = append(done, s)
				}
				recovers(t, d, done...)
			}
			appends(t, d, "")
			recovers(t, d, append(done, "")...)
		}
	}
}

// slow is a tape told byte by byte: power is asked for ahead of each.
type slow struct {
	bytes string
	off   bool
	cuts  []int // the one that waits, if any
}

func (d *slow) append(s string) error {
	r := record(s)
	if len(d.bytes)+len(r) > api.MaxBytes {
		return api.ErrFull
	}
	for i := range len(r) {
		if len(d.cuts) == 1 && len(d.bytes) == d.cuts[0] {
			d.off, d.cuts = true, nil
		}
		if d.off {
			return api.ErrOff
		}
		d.bytes += r[i : i+1]
	}
	return nil
}

func (d *slow) cut(n int) error {
	if n < 0 {
		return api.ErrBound
	}
	if d.off {
		return api.ErrOff
	}
	d.cuts = []int{len(d.bytes) + n}
	return nil
}

func (d *slow) on() { d.off, d.cuts = false, nil }

// P130 to P132: any calls, held against the slow tape; done are the texts that
// were appended without an error.
func TestAlwaysAsTheSlowTape(t *testing.T) {
	offs := 0
	for i := range 2000 {
		r := draw(i)
		d, want := newDisk(t, ""), &slow{}
		var done []string
		for range 40 {
			switch r.below(8) {
			case 0, 1:
				n := r.below(30) - 1
				if err := d.Cut(n); err != want.cut(n) {
					t.Errorf("Cut(%d): %v", n, err)
				}
			case 2:
				want.on()
				want.bytes = records(done)
				recovers(t, d, done...)
			case 3:
				if !want.off { // else what is begun would stay ahead of what comes
					want.on()
					d.On()
				}
			default:
				s := r.one(nasty())
				err := want.append(s)
				refuses(t, d, s, err)
				if err == nil {
					done = append(done, s)
				} else {
					offs++
				}
			}
			holds(t, d, !want.off, want.bytes)
			reads(t, "so far", d.Bytes(), len(records(done)), done...)
		}
		if t.Failed() {
			t.Fatal(i)
		}
	}
	if offs < 2000 {
		t.Errorf("power failed only %d times", offs)
	}
}

// What is read is just what would be written: so no bytes but those of whole
// records are taken for some.
func TestAlwaysReadIsWhatIsWritten(t *testing.T) {
	parts := texts("0", "1", "2", "3", "4", "00", "-", "+", ":", ":", ":", "\n", "\n.", "\n.", ".", "a", "0:\n.", "1:a\n.", "2:\n.\n.")
	seen := 0
	for i := range 50000 {
		r := draw(i)
		b := ""
		for range r.below(12) {
			b += r.one(parts)
		}
		l, n := tape.Read(b)
		if n < 0 || n > len(b) || records(l) != b[:n] {
			t.Fatalf("Read(%q): %q, %d", b, l, n)
		}
		if begins(b[n:]) {
			t.Fatalf("Read(%q): %q, %d, but another one follows", b, l, n)
		}
		seen += len(l)
	}
	if seen < 1000 {
		t.Errorf("only %d records", seen)
	}
}

// begins tells whether bytes begin with a record: each length is tried.
func begins(b string) bool {
	return slices.ContainsFunc([]int{1, 2, 3, 4, 5}, func(digits int) bool {
		for n := 0; digits+1+n+2 <= len(b); n++ {
			s := b[digits+1 : digits+1+n]
			if b[:digits+1+n+2] == record(s) {
				return true
			}
		}
		return false
	})
}
