package scrub_test

import (
	"fmt"
	"slices"
	"strings"
	"testing"

	"stillroom/api"
	"stillroom/dirs"
	"stillroom/disk"
	"stillroom/inode"
	"stillroom/scrub"
	"stillroom/tree"
)

const blockBits = 8 * api.BlockSize

func file(data string) api.Node { return api.Node{Kind: "file", Data: data} }

func link(to string) api.Node { return api.Node{Kind: "link", Data: to} }

func dir(kids ...api.Kid) api.Node { return api.Node{Kind: "dir", Kids: kids} }

func kid(name string, n api.Node) api.Kid { return api.Kid{Name: name, Node: n} }

// long has that many bytes, and no two blocks of it are alike.
func long(n int) string {
	b := make([]byte, n)
	for i := range b {
		b[i] = byte(1 + (i+i/api.BlockSize)%255)
	}
	return string(b)
}

// withSum is a text and four bytes behind it that give it that sum: the division
// is gone back over their 32 bits.
func withSum(s string, sum uint32) string {
	r := ^sum
	for range 32 {
		if high := r >> 31; high == 1 {
			r = (r^0xEDB88320)<<1 | 1
		} else {
			r <<= 1
		}
	}
	r ^= ^disk.Sum(s)
	return s + string([]byte{byte(r), byte(r >> 8), byte(r >> 16), byte(r >> 24)})
}

// block begins with that text, and goes on with zeros.
func block(s string) string { return s + strings.Repeat("\x00", api.BlockSize-len(s)) }

// newTable is over a new disk of that many blocks, with an inode of each text,
// from 0 on.
func newTable(t *testing.T, blocks int, texts ...string) *inode.Table {
	t.Helper()
	b, err := disk.New(blocks)
	if err != nil {
		t.Fatalf("disk.New(%d): %v", blocks, err)
	}
	x, err := inode.New(b)
	if err != nil {
		t.Fatalf("inode.New: %v", err)
	}
	for want, s := range texts {
		if n, err := x.Make(s, false); n != want || err != nil {
			t.Fatalf("Make: %d, %v, want %d", n, err, want)
		}
	}
	return x
}

// newDirs are over a new disk of that many blocks, with these trees, from 0 on.
func newDirs(t *testing.T, blocks int, trees ...api.Node) *dirs.Dirs {
	t.Helper()
	d, err := dirs.New(newTable(t, blocks))
	if err != nil {
		t.Fatalf("dirs.New: %v", err)
	}
	for _, n := range trees {
		put(t, d, n)
	}
	return d
}

func put(t *testing.T, d *dirs.Dirs, n api.Node) {
	t.Helper()
	if _, err := d.Put(n); err != nil {
		t.Fatalf("Put: %v", err)
	}
}

func share(t *testing.T, d *dirs.Dirs, k int, s string, n int) {
	t.Helper()
	if err := d.Share(k, s, n); err != nil {
		t.Fatalf("Share(%d, %q, %d): %v", k, s, n, err)
	}
}

func drop(t *testing.T, d *dirs.Dirs, k int) {
	t.Helper()
	if err := d.Drop(k); err != nil {
		t.Fatalf("Drop(%d): %v", k, err)
	}
}

// rot turns a bit of a block; a second time it is turned back.
func rot(t *testing.T, x *inode.Table, k, bit int) {
	t.Helper()
	if err := x.Disk().Rot(k, bit); err != nil {
		t.Fatalf("Rot(%d, %d): %v", k, bit, err)
	}
}

// write by another hand: it waits.
func write(t *testing.T, x *inode.Table, k int, s string) {
	t.Helper()
	if err := x.Disk().Write(k, s); err != nil {
		t.Fatalf("Write(%d): %v", k, err)
	}
}

func unlink(t *testing.T, x *inode.Table, n int) {
	t.Helper()
	if err := x.Unlink(n); err != nil {
		t.Fatalf("Unlink(%d): %v", n, err)
	}
}

func reads(t *testing.T, x *inode.Table, n int, want string) {
	t.Helper()
	if s, err := x.Read(n); s != want || err != nil {
		t.Errorf("Read(%d): %q, %v, want %q", n, s, err, want)
	}
}

func gets(t *testing.T, d *dirs.Dirs, k int, want api.Node) {
	t.Helper()
	if n, err := d.Get(k); !tree.Same(n, want) || err != nil {
		t.Errorf("Get(%d): %v, %v, want %v", k, n, err, want)
	}
}

// scans tells whether just these can't be read, and that asking changes nothing.
func scans(t *testing.T, x *inode.Table, want ...int) {
	t.Helper()
	was := all(x)
	if got := scrub.Scan(x); !slices.Equal(got, want) {
		t.Errorf("Scan: %v, want %v", got, want)
	}
	if now := all(x); now != was {
		t.Errorf("Scan: %s, was %s", now, was)
	}
}

func mends(t *testing.T, x *inode.Table, n int, data string) {
	t.Helper()
	if err := scrub.Mend(x, n, data); err != nil {
		t.Errorf("Mend(%d, %q): %v", n, data, err)
	}
	reads(t, x, n, data)
}

// mendFails tells whether there is that error, and all stays as it was.
func mendFails(t *testing.T, x *inode.Table, n int, data string, want error) {
	t.Helper()
	was := all(x)
	if err := scrub.Mend(x, n, data); err != want {
		t.Errorf("Mend(%d, %q): %v, want %v", n, data, err, want)
	}
	if now := all(x); now != was {
		t.Errorf("Mend(%d, %q): %s, was %s", n, data, now, was)
	}
}

// where tells whether just these files are an inode, and that asking changes
// nothing.
func where(t *testing.T, d *dirs.Dirs, n int, want ...string) {
	t.Helper()
	was := all(d.Table())
	if got := scrub.Where(d, n); !slices.Equal(got, want) {
		t.Errorf("Where(%d): %q, want %q", n, got, want)
	}
	if now := all(d.Table()); now != was {
		t.Errorf("Where(%d): %s, was %s", n, now, was)
	}
}

// blocks of the disk, as they are read.
func blocks(x *inode.Table) []string {
	var l []string
	for k := range x.Disk().Len() {
		s, _ := x.Disk().Read(k)
		l = append(l, s)
	}
	return l
}

// all that calls can tell of a table and its disk.
func all(x *inode.Table) string {
	l := []any{x.All(), x.Free(), x.Disk().Waits(), blocks(x)}
	for _, n := range x.All() {
		s, _ := x.Stat(n)
		l = append(l, s)
	}
	return fmt.Sprintf("%q", l)
}
