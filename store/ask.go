package store

import (
	"slices"
	"strconv"
	"strings"

	"stillroom/api"
	"stillroom/opt"
	"stillroom/path"
	"stillroom/refs"
	"stillroom/scrub"
	"stillroom/words"
)

// read NAME PATH
func read(k *stock, args []string) (string, error) {
	n, err := k.tree(args[0])
	if err != nil {
		return "", err
	}
	x, err := path.Get(n, args[1])
	if err != nil {
		return "", err
	}
	switch x.Kind {
	case "file":
		return x.Data, nil
	case "link":
		return "->" + x.Data, nil
	}
	return words.List(kids(x), nil)
}

func kids(n api.Node) []string {
	var l []string
	for _, kid := range n.Kids {
		l = append(l, kid.Name)
	}
	return l
}

func list(k *stock, _ []string) (string, error) { return words.List(k.names(), nil) }

func roots(k *stock, _ []string) (string, error) { return words.List(k.roots, nil) }

// refsOf is refs NAME.
func refsOf(k *stock, args []string) (string, error) {
	i := slices.IndexFunc(k.packs, func(p api.Pack) bool { return p.Name == args[0] })
	if i < 0 {
		return "", api.ErrNone
	}
	return words.List(k.packs[i].Refs, nil)
}

// users NAME
func users(k *stock, args []string) (string, error) {
	return words.List(refs.Users(k.packs, args[0]))
}

// need NAME
func need(k *stock, args []string) (string, error) {
	return words.List(refs.Closure(k.packs, args))
}

// rotten is scan: what can't be read.
func rotten(k *stock, _ []string) (string, error) {
	var l []string
	for _, n := range scrub.Scan(k.table()) {
		l = append(l, strconv.Itoa(n))
	}
	return words.List(l, nil)
}

func free(k *stock, _ []string) (string, error) { return words.Number(k.table().Free(), nil) }

func saved(k *stock, _ []string) (string, error) { return words.Number(opt.Saved(k.trees), nil) }

// where N
func where(k *stock, args []string) (string, error) {
	n, err := words.Numbers(args...)
	if err != nil {
		return "", err
	}
	var l []string
	for _, place := range scrub.Where(k.trees, n[0]) {
		number, at, _ := strings.Cut(place, "/")
		l = append(l, k.owner(number)+"/"+at)
	}
	return words.List(l, nil)
}

// owner is the name of the pack whose tree has that number, as it is written.
func (k *stock) owner(number string) string {
	i := slices.IndexFunc(k.packs, func(p api.Pack) bool {
		return strconv.Itoa(k.numbers[p.Name]) == number
	})
	return k.packs[i].Name
}
