package disk_test

import (
	"hash/crc32"
	"strings"
	"testing"

	"stillroom/api"
	"stillroom/disk"
)

func TestSum(t *testing.T) {
	for _, c := range []struct {
		text string
		want uint32
	}{
		{"", 0},
		{"a", 0xE8B7BE43},
		{"abc", 0x352441C2},
		{"123456789", 0xCBF43926},
		{"\x00", 0xD202EF8D},
		{"\xff", 0xFF000000},
		{"\x00\x00\x00\x00", 0x2144DF1C},
		{"\xff\xff\xff\xff", 0xFFFFFFFF},
	} {
		if got := disk.Sum(c.text); got != c.want {
			t.Errorf("Sum(%q): %#x, want %#x", c.text, got, c.want)
		}
	}
}

// byBits divides the bits as they stand in a row, with nothing turned around:
// 32 bits 1 are laid over the first ones, and 32 bits 0 stand behind.
func byBits(s string) uint32 {
	row := make([]uint64, 8*len(s)+32)
	for i := range 8 * len(s) {
		row[i] = uint64(s[i/8]>>(i%8)) & 1
	}
	for i := range 32 {
		row[i] ^= 1
	}
	for i := range 8 * len(s) {
		if row[i] == 0 {
			continue
		}
		for j := range 33 {
			row[i+j] ^= 0x104C11DB7 >> (32 - j) & 1
		}
	}
	var sum uint32
	for i, bit := range row[8*len(s):] {
		sum |= uint32(bit^1) << i
	}
	return sum
}

func TestSumByTwoOthers(t *testing.T) {
	var d draw
	texts := []string{
		strings.Repeat("\x00", api.MaxData),
		strings.Repeat("\xff", api.MaxData),
		"é\xc3(\xe2\x82\xac\xed\xa0\x80", // runes, and what is none
	}
	for i := range 256 {
		texts = append(texts, string([]byte{byte(i)}), string([]byte{byte(i), byte(255 - i)}))
	}
	for n := range 100 {
		texts = append(texts, d.text(n))
	}
	for _, s := range texts {
		got := disk.Sum(s)
		if want := crc32.ChecksumIEEE([]byte(s)); got != want {
			t.Errorf("Sum(%q): %#x, want %#x", s, got, want)
		}
		if want := byBits(s); got != want {
			t.Errorf("Sum(%q): %#x, by bits %#x", s, got, want)
		}
	}
}

// No single bit turns unseen.
func TestSumTellsRot(t *testing.T) {
	var d draw = 5
	s := d.text(3 * api.BlockSize)
	for bit := range 8 * len(s) {
		if disk.Sum(turned(s, bit)) == disk.Sum(s) {
			t.Errorf("bit %d", bit)
		}
	}
}
