package script

import (
	"strconv"

	"stillroom/api"
	"stillroom/diff"
	"stillroom/path"
	"stillroom/store"
	"stillroom/tree"
	"stillroom/words"
)

func commands() map[string]command {
	return map[string]command{
		"cut":    {args: 1, do: (*player).cut},
		"again":  {args: 0, do: (*player).again},
		"diff":   {args: 2, do: (*player).diff},
		"follow": {args: 2, do: (*player).follow},
		"files":  {args: 1, do: (*player).files},
		"size":   {args: 1, do: (*player).size},
	}
}

// cut N
func (p *player) cut(args []string) (string, error) {
	n, err := words.Numbers(args...)
	if err != nil {
		return "", err
	}
	return words.Done(p.Tape().Cut(n[0]))
}

// again: the store that was there goes on where there is an error.
func (p *player) again(_ []string) (string, error) {
	s, err := store.Open(p.Tape(), blocks)
	if err != nil {
		return "", err
	}
	p.Store = s
	return words.Done(nil)
}

// diff NAME NAME
func (p *player) diff(args []string) (string, error) {
	a, errA := p.Tree(args[0])
	b, errB := p.Tree(args[1])
	switch {
	case errB == api.ErrNone: // also ahead of an a that can't be read
		return "", errB
	case errA != nil:
		return "", errA
	case errB != nil:
		return "", errB
	}
	changes, err := diff.Diff(a, b)
	if err != nil {
		return "", err
	}
	var l []string
	for _, c := range changes {
		l = append(l, c.Kind+":"+c.Path)
	}
	return words.List(l, nil)
}

// follow NAME PATH
func (p *player) follow(args []string) (string, error) {
	n, err := p.Tree(args[0])
	if err != nil {
		return "", err
	}
	return path.Follow(n, args[1])
}

// files NAME
func (p *player) files(args []string) (string, error) {
	n, err := p.Tree(args[0])
	if err != nil {
		return "", err
	}
	return words.List(tree.Files(n), nil)
}

// size NAME
func (p *player) size(args []string) (string, error) {
	n, err := p.Tree(args[0])
	if err != nil {
		return "", err
	}
	return words.List([]string{strconv.Itoa(tree.Size(n)), strconv.Itoa(tree.Count(n))}, nil)
}
