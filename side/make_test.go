package side_test

import (
	"fmt"
	"math"
	"slices"
	"strings"
	"testing"

	"stillroom/api"
	"stillroom/pack"
	"stillroom/side"
	"stillroom/store"
)

func file(data string) api.Node { return api.Node{Kind: "file", Data: data} }

func runs(data string) api.Node { return api.Node{Kind: "file", Data: data, Exec: true} }

func link(to string) api.Node { return api.Node{Kind: "link", Data: to} }

func dir(kids ...api.Kid) api.Node { return api.Node{Kind: "dir", Kids: kids} }

func kid(name string, n api.Node) api.Kid { return api.Kid{Name: name, Node: n} }

// nested is a file in that many dirs, one in the other.
func nested(deep int) api.Node {
	n := file("")
	for range deep {
		n = dir(kid("a", n))
	}
	return n
}

// wide has that many kids.
func wide(kids int) api.Node {
	n := dir()
	for i := range kids {
		n.Kids = append(n.Kids, kid(fmt.Sprintf("k%03d", i), file("")))
	}
	return n
}

// counted are that many trees, all of them well, no two alike.
func counted(count int) []api.Node {
	var l []api.Node
	for i := range count {
		l = append(l, file(fmt.Sprint(i)))
	}
	return l
}

// add is the line that adds a tree.
func add(name string, n api.Node) string { return "add " + name + " " + pack.Text(n) }

// long has that many bytes, and no two blocks of it are alike.
func long(n int) string {
	b := make([]byte, n)
	for i := range b {
		b[i] = byte(1 + (i+i/api.BlockSize)%255)
	}
	return string(b)
}

// played is how a play ends.
func played(list, roots, free, saved string) string {
	return list + "\n" + roots + "\n" + free + "\n" + saved
}

// writes tells whether trees have these texts, by each number of workers.
func writes(t *testing.T, l []api.Node, want ...string) {
	t.Helper()
	for w := 1; w <= api.Workers; w++ {
		if got, err := side.Texts(l, w); !slices.Equal(got, want) || err != nil {
			t.Errorf("Texts by %d: %.200q, %v, want %.200q", w, got, err, want)
		}
	}
}

// notWell wants a Fault with that very error, by each number of workers.
func notWell(t *testing.T, l []api.Node, at int, want error) {
	t.Helper()
	for w := 1; w <= api.Workers; w++ {
		got, err := side.Texts(l, w)
		f, is := err.(*api.Fault)
		if len(got) != 0 || !is || f.At != at || f.Err != want {
			t.Errorf("Texts by %d: %.80q, %#v, want %v at %d", w, got, err, want, at)
		}
	}
}

// textsFail wants the very error, without a place.
func textsFail(t *testing.T, l []api.Node, workers int, want error) {
	t.Helper()
	if got, err := side.Texts(l, workers); len(got) != 0 || err != want {
		t.Errorf("Texts of %d by %d: %.80q, %v, want %v", len(l), workers, got, err, want)
	}
}

// plays tells whether scripts end so, by each number of workers.
func plays(t *testing.T, scripts [][]string, blocks int, want ...string) {
	t.Helper()
	for w := 1; w <= api.Workers; w++ {
		if got, err := side.Plays(scripts, blocks, w); !slices.Equal(got, want) || err != nil {
			t.Errorf("Plays by %d: %.300q, %v, want %.300q", w, got, err, want)
		}
	}
}

func playsFail(t *testing.T, scripts [][]string, blocks, workers int, want error) {
	t.Helper()
	if got, err := side.Plays(scripts, blocks, workers); len(got) != 0 || err != want {
		t.Errorf("Plays of %d, %d blocks, by %d: %.80q, %v, want %v", len(scripts), blocks, workers, got, err, want)
	}
}

// byHand plays scripts one behind the other, by the words of the document.
func byHand(t *testing.T, scripts [][]string, blocks int) []string {
	t.Helper()
	var l []string
	for _, script := range scripts {
		s, err := store.New(blocks)
		if err != nil {
			t.Fatalf("New(%d): %v", blocks, err)
		}
		for _, line := range script {
			s.Do(line)
		}
		var answers []string
		for _, line := range strings.Fields("list roots free saved") {
			answer, err := s.Do(line)
			if err != nil {
				t.Fatalf("%s: %v", line, err)
			}
			answers = append(answers, answer)
		}
		l = append(l, strings.Join(answers, "\n"))
	}
	return l
}

// wrongWorkers are numbers that workers never have.
func wrongWorkers() []int {
	return []int{0, -1, api.Workers + 1, 100, math.MaxInt, math.MinInt}
}

// wrongBlocks are numbers of blocks that no disk has.
func wrongBlocks() []int {
	return []int{0, -1, api.MaxBlocks + 1, math.MaxInt, math.MinInt}
}
