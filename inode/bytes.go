package inode

import (
	"slices"
	"strings"

	"stillroom/api"
	"stillroom/disk"
)

// Lay bytes into blocks that have just room for them, and a Barrier. It stands
// open for who writes the bytes of an inode anew: how they lie in their blocks
// is known here alone. No write fails: an inode has blocks of its disk alone.
func Lay(d *disk.Disk, blocks []int, data string) {
	filled := make([]byte, len(blocks)*api.BlockSize) // zeros behind the data
	copy(filled, data)
	i := 0
	for piece := range slices.Chunk(filled, api.BlockSize) {
		d.Write(blocks[i], string(piece))
		i++
	}
	d.Barrier()
}

// read takes that many bytes out of blocks, as they stand there, rotten or
// not. What fills up the last block is nobody's: it may rot unseen.
func (t *Table) read(blocks []int, bytes int) string {
	var b strings.Builder
	for _, k := range blocks {
		s, _ := t.disk.Read(k)
		b.WriteString(s[:min(len(s), bytes-b.Len())])
	}
	return b.String()
}
