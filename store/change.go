package store

import (
	"slices"

	"stillroom/api"
	"stillroom/opt"
	"stillroom/pack"
	"stillroom/refs"
	"stillroom/scan"
	"stillroom/scrub"
	"stillroom/tree"
	"stillroom/words"
)

// add NAME TREE
func add(k *stock, args []string) (string, error) {
	name := args[0]
	switch {
	case !tree.Name(name):
		return "", api.ErrName
	case k.has(name):
		return "", api.ErrExist
	case len(k.packs) >= api.MaxPacks:
		return "", api.ErrFull
	}
	n, err := pack.Read(args[1])
	if err != nil {
		return "", err
	}
	needs := scan.Refs(n, append(k.names(), name))
	if len(needs) > api.MaxRefs {
		return "", api.ErrFull
	}
	number, err := k.trees.Put(n)
	if err != nil {
		return "", err
	}
	k.packs = append(k.packs, api.Pack{Name: name, Refs: needs})
	k.numbers[name] = number
	return words.Done(nil)
}

// root NAME
func root(k *stock, args []string) (string, error) {
	if !k.has(args[0]) {
		return "", api.ErrNone
	}
	i, is := slices.BinarySearch(k.roots, args[0])
	if is {
		return "", api.ErrExist
	}
	k.roots = slices.Insert(k.roots, i, args[0])
	return words.Done(nil)
}

// unroot NAME
func unroot(k *stock, args []string) (string, error) {
	i, is := slices.BinarySearch(k.roots, args[0])
	if !is {
		return "", api.ErrNone
	}
	k.roots = slices.Delete(k.roots, i, i+1)
	return words.Done(nil)
}

// gc
func gc(k *stock, _ []string) (string, error) {
	dead, err := refs.Dead(k.packs, k.roots)
	if err != nil {
		return "", err
	}
	for _, name := range dead {
		if err := k.drop(name); err != nil {
			return "", err
		}
	}
	return words.Number(len(dead), nil)
}

// once is opt: what is alike.
func once(k *stock, _ []string) (string, error) { return words.Number(opt.All(k.trees)) }

// rot N BIT
func rot(k *stock, args []string) (string, error) {
	l, err := words.Numbers(args...)
	if err != nil {
		return "", err
	}
	return words.Done(k.table().Disk().Rot(l[0], l[1]))
}

// mend N DATA
func mend(k *stock, args []string) (string, error) {
	l, err := words.Numbers(args[0])
	if err != nil {
		return "", err
	}
	return words.Done(scrub.Mend(k.table(), l[0], args[1]))
}
