package tape_test

import (
	"slices"
	"strconv"
	"strings"
	"testing"

	"stillroom/tape"
)

func texts(l ...string) []string { return l }

func bytes(n int) string { return strings.Repeat("x", n) }

// record is written here by the words of the document.
func record(s string) string { return strconv.Itoa(len(s)) + ":" + s + "\n." }

func records(l []string) string {
	all := ""
	for _, s := range l {
		all += record(s)
	}
	return all
}

// nasty texts look like a record, like its begin, its end, or some of them.
func nasty() []string {
	return texts("", "a", "\n", ".", ":", "0", "\n.", ".\n", "\n.\n.", "1:", "0:", "0:\n.", "3:abc\n.", "2:\n.\n.", "1:a\n.1:b\n.", "12", "00", "-1", "-1:\n.", "a\n.b", "x\n.0:\n.", "\x00", "\xff\xfe", "é", "12345678901", strings.Repeat("0:\n.", 30))
}

func newDisk(t *testing.T, b string) *tape.Disk {
	t.Helper()
	d, err := tape.NewDisk(b)
	if err != nil || d == nil {
		t.Fatalf("NewDisk of %d bytes: %v, %v", len(b), d, err)
	}
	return d
}

func cut(t *testing.T, d *tape.Disk, n int) {
	t.Helper()
	if err := d.Cut(n); err != nil {
		t.Fatalf("Cut(%d): %v", n, err)
	}
}

func appends(t *testing.T, d *tape.Disk, l ...string) {
	t.Helper()
	for _, s := range l {
		if err := tape.Append(d, s); err != nil {
			t.Fatalf("Append(%.40q): %v", s, err)
		}
	}
}

// refuses wants a bare error.
func refuses(t *testing.T, d *tape.Disk, s string, want error) {
	t.Helper()
	if err := tape.Append(d, s); err != want {
		t.Errorf("Append(%.40q): %v, want %v", s, err, want)
	}
}

// holds tells whether a disk has just these bytes, and power or none.
func holds(t *testing.T, d *tape.Disk, power bool, want string) {
	t.Helper()
	if got := d.Bytes(); got != want {
		t.Errorf("%d bytes %.80q, want %d %.80q", len(got), got, len(want), want)
	}
	if d.Power() != power {
		t.Errorf("power is %v, want %v", d.Power(), power)
	}
}

// reads wants texts, and how many bytes their records have.
func reads(t *testing.T, about, b string, size int, want ...string) {
	t.Helper()
	got, n := tape.Read(b)
	if !slices.Equal(got, want) || n != size {
		t.Errorf("%s: Read(%.60q): %.80q, %d bytes, want %.80q, %d", about, b, got, n, want, size)
	}
}

func recovers(t *testing.T, d *tape.Disk, want ...string) {
	t.Helper()
	got, err := tape.Recover(d)
	if err != nil || !slices.Equal(got, want) {
		t.Errorf("Recover: %.80q, %v, want %.80q", got, err, want)
	}
	holds(t, d, true, records(want))
}

// draw makes numbers from a number alone, so that each run sees the same ones.
type draw uint32

func (d *draw) below(n int) int {
	*d = *d*1664525 + 1013904223
	return int(*d>>16) % n
}

func (d *draw) one(l []string) string { return l[d.below(len(l))] }
