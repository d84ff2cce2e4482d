package scan

import (
	"strings"

	"stillroom/tree"
)

// mentions hands over each mention of a text, from its begin to its end: the
// name, and where it begins. A name is all that goes on behind the `#` with
// bytes that names have: so one that another one begins is not mentioned there.
func mentions(s string, do func(at int, name string)) {
	for at := next(s, 0); at > 0; {
		end := at
		for end < len(s) && tree.NameByte(s[end]) {
			end++
		}
		if name := s[at:end]; tree.Name(name) {
			do(at, name)
		}
		at = next(s, end)
	}
}

// next is where the text goes on behind its next `#`; 0 if there is none.
func next(s string, from int) int {
	i := strings.IndexByte(s[from:], '#')
	if i < 0 {
		return 0
	}
	return from + i + 1
}
