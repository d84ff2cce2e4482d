package pack

import (
	"strconv"
	"strings"

	"stillroom/api"
)

// The letters with which a node's text begins.
const (
	letterFile = 'f'
	letterRuns = 'x'
	letterLink = 'l'
	letterDir  = 'd'
)

// writeNode writes a node of a tree that is well.
func writeNode(b *strings.Builder, n api.Node) {
	b.WriteByte(letter(n))
	if n.Kind != "dir" {
		writeBytes(b, n.Data)
		return
	}
	writeNumber(b, len(n.Kids))
	for _, k := range n.Kids {
		writeBytes(b, k.Name)
		writeNode(b, k.Node)
	}
}

func letter(n api.Node) byte {
	switch {
	case n.Kind == "dir":
		return letterDir
	case n.Kind == "link":
		return letterLink
	case n.Exec:
		return letterRuns
	}
	return letterFile
}

// writeBytes writes how many bytes there are ahead of them, so that they may be
// any: nothing in them ends them.
func writeBytes(b *strings.Builder, s string) {
	writeNumber(b, len(s))
	b.WriteString(s)
}

func writeNumber(b *strings.Builder, n int) {
	b.WriteString(strconv.Itoa(n))
	b.WriteByte(':')
}
