package tree

import "stillroom/api"

// Copy of a node, of any one: what is written into it shows in no other node,
// since it has lists of its own all the way down.
func Copy(n api.Node) api.Node {
	kids := n.Kids
	n.Kids = nil
	for _, k := range kids {
		n.Kids = append(n.Kids, api.Kid{Name: k.Name, Node: Copy(k.Node)})
	}
	return n
}
