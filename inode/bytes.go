package inode

import (
	"slices"
	"strings"

	"stillroom/api"
)

// write lays bytes into blocks that have just room for them. No write fails:
// the space gives out blocks of the disk alone.
func (t *Table) write(blocks []int, data string) {
	filled := make([]byte, len(blocks)*api.BlockSize) // zeros behind the data
	copy(filled, data)
	i := 0
	for piece := range slices.Chunk(filled, api.BlockSize) {
		t.disk.Write(blocks[i], string(piece))
		i++
	}
	t.disk.Barrier()
}

// read takes that many bytes out of blocks, as they stand there, rotten or
// not. What fills up the last block is nobody's: it may rot unseen.
func (t *Table) read(blocks []int, bytes int) string {
	var b strings.Builder
	for _, k := range blocks {
		s, _ := t.disk.Read(k)
		b.WriteString(s[:min(len(s), bytes-b.Len())])
	}
	return b.String()
}
