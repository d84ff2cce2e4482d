package diff

import (
	"stillroom/api"
	"stillroom/tree"
)

// tellNode tells how the node at a path changes. The path of the top is handed
// in without its slash, so that a kid's path is always its dir's, a slash, its
// name. Two dirs that are alike need no look of their own: no kid of theirs
// tells anything.
func tellNode(l *[]api.Change, at string, a, b api.Node) {
	if a.Kind == "dir" && b.Kind == "dir" {
		tellKids(l, at, a.Kids, b.Kids)
		return
	}
	if tree.Same(a, b) {
		return
	}
	if at == "" {
		at = "/"
	}
	tell(l, "edit", at, b)
}

// tellKids goes through two dirs side by side, the lesser name first: the names
// of both rise, since both trees are well.
func tellKids(l *[]api.Change, at string, a, b []api.Kid) {
	for len(a) > 0 || len(b) > 0 {
		switch {
		case len(b) == 0 || len(a) > 0 && a[0].Name < b[0].Name:
			tell(l, "drop", at+"/"+a[0].Name, api.Node{})
			a = a[1:]
		case len(a) == 0 || b[0].Name < a[0].Name:
			tell(l, "add", at+"/"+b[0].Name, b[0].Node)
			b = b[1:]
		default:
			tellNode(l, at+"/"+a[0].Name, a[0].Node, b[0].Node)
			a, b = a[1:], b[1:]
		}
	}
}

// tell puts one more change to the list, with a node of its own.
func tell(l *[]api.Change, kind, at string, n api.Node) {
	*l = append(*l, api.Change{Kind: kind, Path: at, Node: tree.Copy(n)})
}
