package script_test

import (
	"errors"
	"strconv"
	"strings"
	"testing"

	"stillroom/api"
	"stillroom/diff"
	"stillroom/pack"
	"stillroom/path"
	"stillroom/store"
	"stillroom/tree"
)

// slow plays by the words of the document, and keeps nothing but the lines that
// became records: each line finds a store of its own, on which these were done.
type slow struct {
	t     *testing.T
	lines []string
	off   bool
	left  int // bytes of the cut that waits; below 0 if there is none
}

// play a line that is made as it should be.
func (s *slow) play(line string) string {
	word, rest, _ := strings.Cut(line, " ")
	name, other, _ := strings.Cut(rest, " ")
	switch word {
	case "again":
		s.off, s.left = false, -1
		return "ok"
	case "cut":
		return s.cut(name)
	case "diff":
		return s.diff(name, other)
	case "follow", "files", "size":
		n, err := s.tree(name)
		if err != nil {
			return err.Error()
		}
		return asked(word, n, other)
	}
	answer, err := s.store().Do(line)
	if err != nil {
		return err.Error()
	}
	if strings.Contains(" add root unroot gc opt rot mend ", " "+word+" ") {
		return s.record(line, answer)
	}
	return answer
}

func asked(word string, n api.Node, s string) string {
	switch word {
	case "files":
		return listed(tree.Files(n))
	case "size":
		return strconv.Itoa(tree.Size(n)) + " " + strconv.Itoa(tree.Count(n))
	}
	at, err := path.Follow(n, s)
	if err != nil {
		return err.Error()
	}
	return at
}

func listed(l []string) string {
	if len(l) == 0 {
		return "nothing"
	}
	return strings.Join(l, " ")
}

func (s *slow) cut(number string) string {
	n, err := strconv.Atoi(number)
	switch {
	case err != nil:
		s.t.Fatalf("cut %s", number)
	case s.off:
		return offError
	}
	s.left = n
	return "ok"
}

// record a line that went well, if power lets it be one.
func (s *slow) record(line, answer string) string {
	switch {
	case s.off:
		return offError
	case s.left >= 0 && size(line) > s.left:
		s.off, s.left = true, -1
		return offError
	case s.left >= 0:
		s.left -= size(line)
	}
	s.lines = append(s.lines, line)
	return answer
}

func (s *slow) diff(name, other string) string {
	n, err := s.tree(name)
	m, otherErr := s.tree(other)
	for _, want := range []error{api.ErrNone, api.ErrSum} {
		if errors.Is(err, want) || errors.Is(otherErr, want) {
			return want.Error()
		}
	}
	changes, err := diff.Diff(n, m)
	if err != nil {
		s.t.Fatalf("diff %s %s: %v", name, other, err)
	}
	var l []string
	for _, c := range changes {
		l = append(l, c.Kind+":"+c.Path)
	}
	return listed(l)
}

// store on which the records were done.
func (s *slow) store() *store.Store {
	x, err := store.New(64)
	if err != nil {
		s.t.Fatal(err)
	}
	for _, line := range s.lines {
		if _, err := x.Do(line); err != nil {
			s.t.Fatalf("%.60q: %v", line, err)
		}
	}
	return x
}

// tree of a pack, as the last line has it that added one.
func (s *slow) tree(name string) (api.Node, error) {
	if _, err := s.store().Do("read " + name + " /"); err != nil {
		return api.Node{}, err
	}
	var n api.Node
	for _, line := range s.lines {
		text, is := strings.CutPrefix(line, "add "+name+" ")
		if is {
			n, _ = pack.Read(text)
		}
	}
	return n, nil
}
