package tree

import "stillroom/api"

// checkNode checks all of a node that can be told without its place, and
// without its kids' own nodes.
func checkNode(n api.Node) error {
	switch n.Kind {
	case "file":
		return checkFile(n)
	case "dir":
		return checkDir(n)
	case "link":
		return checkLink(n)
	}
	return api.ErrKind
}

func checkFile(n api.Node) error {
	if len(n.Kids) > 0 {
		return api.ErrShape
	}
	if len(n.Data) > api.MaxData {
		return api.ErrBound
	}
	return nil
}

func checkLink(n api.Node) error {
	if n.Exec || len(n.Kids) > 0 {
		return api.ErrShape
	}
	if len(n.Data) < 1 || len(n.Data) > api.MaxLink {
		return api.ErrBound
	}
	for i := range len(n.Data) {
		if n.Data[i] < 33 || n.Data[i] > 126 {
			return api.ErrText
		}
	}
	return nil
}

// checkDir goes through the names twice: a bad name anywhere is told ahead of
// names that do not rise.
func checkDir(n api.Node) error {
	if n.Data != "" || n.Exec {
		return api.ErrShape
	}
	for _, k := range n.Kids {
		if !Name(k.Name) {
			return api.ErrName
		}
	}
	for i := 1; i < len(n.Kids); i++ {
		if n.Kids[i-1].Name >= n.Kids[i].Name {
			return api.ErrOrder
		}
	}
	return nil
}
