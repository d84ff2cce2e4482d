package space

import (
	"slices"

	"stillroom/api"
)

func (s *Space) marks() []bool {
	if s == nil {
		return nil
	}
	return s.used
}

// where are the blocks that are wanted by what is used, rising.
func (s *Space) where(wanted func(used bool) bool) []int {
	var l []int
	for k, used := range s.marks() {
		if wanted(used) {
			l = append(l, k)
		}
	}
	return l
}

func (s *Space) free() []int {
	return s.where(func(used bool) bool { return !used })
}

func (s *Space) mark(l []int, used bool) {
	for _, k := range l {
		s.used[k] = used
	}
}

// fault tells why a list can't be given back. It is tried on a copy, where a
// block that is there twice is free already at its second time.
func (s *Space) fault(l []int) error {
	used := slices.Clone(s.marks())
	if slices.ContainsFunc(l, func(k int) bool { return k < 0 || k >= len(used) }) {
		return api.ErrBound
	}
	for _, k := range l {
		if !used[k] {
			return api.ErrNone
		}
		used[k] = false
	}
	return nil
}
