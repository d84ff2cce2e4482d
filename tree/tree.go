// Package tree: trees: see ../shared/doc/01-tree.md.
package tree

import "stillroom/api"

// Name: is a text one?
func Name(s string) bool {
	if len(s) < 1 || len(s) > api.MaxName || s == "." || s == ".." {
		return false
	}
	for i := range len(s) {
		if !NameByte(s[i]) {
			return false
		}
	}
	return true
}

// NameByte: may a byte be a name's?
func NameByte(c byte) bool {
	return c >= 'a' && c <= 'z' || c >= '0' && c <= '9' || c == '.' || c == '-'
}

// Check a tree.
func Check(n api.Node) error {
	nodes := 0
	return walk("", 0, n, func(_ string, deep int, n api.Node) error {
		nodes++
		if deep > api.MaxDeep {
			return api.ErrDeep
		}
		if nodes > api.MaxNodes {
			return api.ErrFull
		}
		return checkNode(n)
	})
}

// Same two?
func Same(a, b api.Node) bool {
	if a.Kind != b.Kind || a.Data != b.Data || a.Exec != b.Exec || len(a.Kids) != len(b.Kids) {
		return false
	}
	for i, k := range a.Kids {
		if k.Name != b.Kids[i].Name || !Same(k.Node, b.Kids[i].Node) {
			return false
		}
	}
	return true
}

// Count of nodes.
func Count(n api.Node) int {
	nodes := 0
	each(n, func(string, api.Node) { nodes++ })
	return nodes
}

// Size of files.
func Size(n api.Node) int {
	size := 0
	each(n, func(_ string, n api.Node) {
		if n.Kind == "file" {
			size += len(n.Data)
		}
	})
	return size
}

// Files of a tree.
func Files(n api.Node) []string {
	var paths []string
	each(n, func(path string, n api.Node) {
		if n.Kind != "file" {
			return
		}
		if path == "" {
			path = "/"
		}
		paths = append(paths, path)
	})
	return paths
}
