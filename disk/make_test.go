package disk_test

import (
	"strings"
	"testing"

	"stillroom/api"
	"stillroom/disk"
)

// block begins with that text, and goes on with zeros.
func block(s string) string { return s + strings.Repeat("\x00", api.BlockSize-len(s)) }

func newDisk(t *testing.T, n int) *disk.Disk {
	t.Helper()
	d, err := disk.New(n)
	if err != nil || d == nil {
		t.Fatalf("New(%d): %v, %v", n, d, err)
	}
	return d
}

func write(t *testing.T, d *disk.Disk, k int, s string) {
	t.Helper()
	if err := d.Write(k, block(s)); err != nil {
		t.Fatalf("Write(%d, %q): %v", k, s, err)
	}
}

func rot(t *testing.T, d *disk.Disk, k, bit int) {
	t.Helper()
	if err := d.Rot(k, bit); err != nil {
		t.Fatalf("Rot(%d, %d): %v", k, bit, err)
	}
}

// all are the blocks of a disk, as they are read.
func all(t *testing.T, d *disk.Disk) []string {
	t.Helper()
	var l []string
	for k := range d.Len() {
		s, err := d.Read(k)
		if err != nil {
			t.Fatalf("Read(%d): %v", k, err)
		}
		l = append(l, s)
	}
	return l
}

// holds tells whether a disk has just these blocks, and so many writes that wait.
func holds(t *testing.T, d *disk.Disk, waits int, want ...string) {
	t.Helper()
	got := all(t, d)
	if len(got) != len(want) {
		t.Fatalf("%d blocks, want %d", len(got), len(want))
	}
	for k, s := range want {
		if got[k] != block(s) {
			t.Errorf("block %d: %q, want %q", k, got[k], block(s))
		}
	}
	if d.Waits() != waits {
		t.Errorf("%d writes wait, want %d", d.Waits(), waits)
	}
}

// turned is a text with one bit of it turned.
func turned(s string, bit int) string {
	b := []byte(s)
	b[bit>>3] ^= []byte{1, 2, 4, 8, 16, 32, 64, 128}[bit&7]
	return string(b)
}

// draw makes numbers from a number alone, so that each run sees the same ones.
type draw uint32

func (d *draw) below(n int) int {
	*d = *d*1664525 + 1013904223
	return int(*d>>16) % n
}

// text has that many bytes, of all kinds.
func (d *draw) text(n int) string {
	b := make([]byte, n)
	for i := range b {
		b[i] = byte(d.below(256))
	}
	return string(b)
}

// numbers has some that are none of a list of n, and some that stand twice.
func (d *draw) numbers(n int) []int {
	var l []int
	for range d.below(2*n + 2) {
		l = append(l, d.below(n+4)-2)
	}
	return l
}
