package inode_test

import (
	"slices"
	"strings"
	"testing"

	"stillroom/api"
	"stillroom/disk"
	"stillroom/inode"
)

// newTable is one over a new disk of that many blocks.
func newTable(t *testing.T, blocks int) *inode.Table {
	t.Helper()
	d, err := disk.New(blocks)
	if err != nil {
		t.Fatalf("disk.New(%d): %v", blocks, err)
	}
	x, err := inode.New(d)
	if err != nil || x == nil {
		t.Fatalf("New: %v, %v", x, err)
	}
	return x
}

// put makes an inode, and tells whether it has that number.
func put(t *testing.T, x *inode.Table, want int, data string) {
	t.Helper()
	n, err := x.Make(data, false)
	if n != want || err != nil {
		t.Fatalf("Make of %d bytes: %d, %v, want %d", len(data), n, err, want)
	}
}

func link(t *testing.T, x *inode.Table, n int) {
	t.Helper()
	if err := x.Link(n); err != nil {
		t.Fatalf("Link(%d): %v", n, err)
	}
}

func unlink(t *testing.T, x *inode.Table, n int) {
	t.Helper()
	if err := x.Unlink(n); err != nil {
		t.Fatalf("Unlink(%d): %v", n, err)
	}
}

func rot(t *testing.T, x *inode.Table, k, bit int) {
	t.Helper()
	if err := x.Disk().Rot(k, bit); err != nil {
		t.Fatalf("Rot(%d, %d): %v", k, bit, err)
	}
}

func reads(t *testing.T, x *inode.Table, n int, want string) {
	t.Helper()
	if s, err := x.Read(n); s != want || err != nil {
		t.Errorf("Read(%d): %q, %v, want %q", n, s, err, want)
	}
}

func readFails(t *testing.T, x *inode.Table, n int, want error) {
	t.Helper()
	if s, err := x.Read(n); s != "" || err != want {
		t.Errorf("Read(%d): %q, %v, want %v", n, s, err, want)
	}
}

func makeFails(t *testing.T, x *inode.Table, data string, want error) {
	t.Helper()
	for _, exec := range []bool{false, true} {
		if n, err := x.Make(data, exec); n != 0 || err != want {
			t.Errorf("Make of %d bytes: %d, %v, want %v", len(data), n, err, want)
		}
	}
}

func same(a, b inode.Stat) bool {
	return a.Bytes == b.Bytes && a.Links == b.Links && a.Exec == b.Exec &&
		slices.Equal(a.Blocks, b.Blocks) && a.Sum == b.Sum
}

// stats tells whether an inode is that one.
func stats(t *testing.T, x *inode.Table, n int, want inode.Stat) {
	t.Helper()
	if s, is := x.Stat(n); !is || !same(s, want) {
		t.Errorf("Stat(%d): %v, %v, want %v", n, s, is, want)
	}
}

// holds tells whether so many blocks are free, and just these numbers are there.
func holds(t *testing.T, x *inode.Table, free int, want ...int) {
	t.Helper()
	if x.Free() != free {
		t.Errorf("%d blocks are free, want %d", x.Free(), free)
	}
	if got := x.All(); !slices.Equal(got, want) {
		t.Errorf("%v are there, want %v", got, want)
	}
}

// blocks of the disk, as they are read.
func blocks(t *testing.T, x *inode.Table) []string {
	t.Helper()
	var l []string
	for k := range x.Disk().Len() {
		s, err := x.Disk().Read(k)
		if err != nil {
			t.Fatalf("Read of block %d: %v", k, err)
		}
		l = append(l, s)
	}
	return l
}

// long has that many bytes, and no two blocks of it are alike.
func long(n int) string {
	b := make([]byte, n)
	for i := range b {
		b[i] = byte(1 + (i+i/api.BlockSize)%255)
	}
	return string(b)
}

// block begins with that text, and goes on with zeros.
func block(s string) string { return s + strings.Repeat("\x00", api.BlockSize-len(s)) }

// upTo are the numbers from 0 on, below n.
func upTo(n int) []int {
	var l []int
	for k := range n {
		l = append(l, k)
	}
	return l
}

// draw makes numbers from a number alone, so that each run sees the same ones.
type draw uint32

func (d *draw) below(n int) int {
	*d = *d*1664525 + 1013904223
	return int(*d>>16) % n
}

// text has that many bytes, of all kinds.
func (d *draw) text(n int) string {
	b := make([]byte, n)
	for i := range b {
		b[i] = byte(d.below(256))
	}
	return string(b)
}
