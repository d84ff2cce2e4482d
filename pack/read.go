package pack

import "stillroom/api"

// maxDigits bounds a number's digits: so it is far from wrapping round.
const maxDigits = 6

// reader goes through a text from its start. It counts the nodes that it began,
// since one too many of them ends it wherever that one lies.
type reader struct {
	rest  string
	nodes int
}

// node reads one that lies that deep. The bounds come ahead of its first byte,
// and bound how far a text can make it go into itself.
func (r *reader) node(deep int) (api.Node, error) {
	r.nodes++
	if deep > api.MaxDeep {
		return api.Node{}, api.ErrDeep
	}
	if r.nodes > api.MaxNodes {
		return api.Node{}, api.ErrFull
	}
	if r.rest == "" {
		return api.Node{}, api.ErrText
	}
	c := r.rest[0]
	r.rest = r.rest[1:]
	switch c {
	case letterFile, letterRuns:
		data, err := r.bytes()
		return api.Node{Kind: "file", Data: data, Exec: c == letterRuns}, err
	case letterLink:
		data, err := r.bytes()
		return api.Node{Kind: "link", Data: data}, err
	case letterDir:
		return r.dir(deep)
	}
	return api.Node{}, api.ErrText
}

// dir reads what is behind a dir's letter. Its list grows kid by kid: the number
// ahead may promise far more than there is.
func (r *reader) dir(deep int) (api.Node, error) {
	count, err := r.number()
	if err != nil {
		return api.Node{}, err
	}
	n := api.Node{Kind: "dir"}
	for range count {
		name, err := r.bytes()
		if err != nil {
			return api.Node{}, err
		}
		kid, err := r.node(deep + 1)
		if err != nil {
			return api.Node{}, err
		}
		n.Kids = append(n.Kids, api.Kid{Name: name, Node: kid})
	}
	return n, nil
}

// bytes reads a number, and that many bytes.
func (r *reader) bytes() (string, error) {
	size, err := r.number()
	if err != nil {
		return "", err
	}
	if size > len(r.rest) {
		return "", api.ErrText
	}
	s := r.rest[:size]
	r.rest = r.rest[size:]
	return s, nil
}

// number reads one, and the colon behind it.
func (r *reader) number() (int, error) {
	n, digits := 0, 0
	for digits < len(r.rest) && r.rest[digits] >= '0' && r.rest[digits] <= '9' {
		if digits == maxDigits {
			return 0, api.ErrText
		}
		n = 10*n + int(r.rest[digits]-'0')
		digits++
	}
	if digits == 0 || digits > 1 && r.rest[0] == '0' {
		return 0, api.ErrText
	}
	if digits == len(r.rest) || r.rest[digits] != ':' {
		return 0, api.ErrText
	}
	r.rest = r.rest[digits+1:]
	return n, nil
}
