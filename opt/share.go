package opt

import (
	"stillroom/api"
	"stillroom/dirs"
	"stillroom/inode"
)

// look of an inode: two that have the same one are alike. It has the bytes and
// not their sum, since others may have that sum too.
type look struct {
	data string
	exec bool
}

// share makes steps, at most that many. All of them are found in one round: a
// step takes no inode away that is the first of its look, so that the others'
// first ones stay, and a file that was passed by has no step later on either.
func share(d *dirs.Dirs, most int) (int, error) {
	if d == nil {
		return 0, api.ErrShape
	}
	first := firsts(d.Table())
	steps := 0
	for _, f := range d.Files() {
		n, is := first[f.Inode]
		if !is || n == f.Inode {
			continue
		}
		// Its inode may be gone by now, if another hand took links away, by the
		// table: then it can't be read, and a step would pass it by.
		if d.Share(f.Tree, f.Path, n) != nil {
			continue
		}
		steps++
		if steps == most {
			break
		}
	}
	return steps, nil
}

// firsts are, of each inode that can be read, the least one that is alike. What
// can't be read is not there: it is like nothing, not even like itself.
func firsts(t *inode.Table) map[int]int {
	least, first := map[look]int{}, map[int]int{}
	for _, n := range t.All() {
		data, err := t.Read(n)
		if err != nil {
			continue
		}
		s, _ := t.Stat(n) // it was read: it is there
		l := look{data, s.Exec}
		if _, is := least[l]; !is {
			least[l] = n
		}
		first[n] = least[l]
	}
	return first
}
