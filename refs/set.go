package refs

// set of names.
type set map[string]struct{}

func (s set) add(names ...string) {
	for _, name := range names {
		s[name] = struct{}{}
	}
}

func (s set) has(name string) bool {
	_, is := s[name]
	return is
}
