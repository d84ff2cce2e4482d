package side_test

import (
	"fmt"
	"slices"
	"sync"
	"testing"

	"stillroom/api"
	"stillroom/pack"
	"stillroom/side"
	"stillroom/tree"
)

// draw makes trees and scripts from a number alone, so that each run sees the
// same ones.
type draw uint32

func (r *draw) below(n int) int {
	*r = *r*1664525 + 1013904223
	return int(*r>>16) % n
}

func (r *draw) one(l ...string) string { return l[r.below(len(l))] }

func (r *draw) name() string { return r.one("a", "b", "c", "d", "e", "f") }

// data are often alike, and often mention names.
func (r *draw) data() string {
	return r.one("", "x", "x", long(16), long(17), long(40), "#"+r.name(), "#"+r.name()+" #"+r.name())
}

func (r *draw) node(deep int) api.Node {
	switch r.below(6) {
	case 0:
		return link("#" + r.name())
	case 1, 2:
		return file(r.data())
	case 3:
		return runs(r.data())
	}
	n := dir()
	for _, name := range []string{"a", "b", "c"} {
		if deep > 0 && r.below(2) == 0 {
			n.Kids = append(n.Kids, kid(name, r.node(deep-1)))
		}
	}
	return n
}

// line is any, often one with an error.
func (r *draw) line() string {
	switch r.below(10) {
	case 0, 1, 2, 3:
		return add(r.name(), r.node(3))
	case 4, 5:
		return "root " + r.name()
	case 6:
		return fmt.Sprintf("rot %d %d", r.below(12), r.below(9))
	case 7:
		return fmt.Sprintf("mend %d %s", r.below(8), r.data())
	case 8:
		return r.one("opt", "gc", "unroot "+r.name())
	}
	return r.one("", "what", "list", "free", "gc ", "add", "read a /", "where 0")
}

// scripts are that many, of which some have no lines, and some MaxScript.
func (r *draw) scripts(count int) [][]string {
	var l [][]string
	for range count {
		var script []string
		for range min(r.below(api.MaxScript+20), api.MaxScript) {
			script = append(script, r.line())
		}
		l = append(l, script)
	}
	return l
}

// trees are that many; of which one in so many is not well.
func (r *draw) trees(count, bad int) []api.Node {
	var l []api.Node
	for range count {
		n := r.node(4)
		if r.below(bad) == 0 {
			n = []api.Node{{}, link(""), file(long(api.MaxData + 1)), dir(kid("", n)), nested(9)}[r.below(5)]
		}
		l = append(l, n)
	}
	return l
}

// oneByOne are trees' texts, or where the first one is that is not well.
func oneByOne(l []api.Node) ([]string, int, error) {
	var texts []string
	for i, n := range l {
		if err := tree.Check(n); err != nil {
			return nil, i, err
		}
		texts = append(texts, pack.Text(n))
	}
	return texts, 0, nil
}

func TestAlwaysTheSameTexts(t *testing.T) {
	var r draw = 150
	wells := 0
	for range 120 {
		l := r.trees(r.below(101), 1+r.below(200))
		want, at, err := oneByOne(l)
		if err != nil {
			notWell(t, l, at, err)
			continue
		}
		wells++
		writes(t, l, want...)
	}
	if wells < 20 || wells > 100 {
		t.Errorf("%d lists of 120 are well: draw others", wells)
	}
}

func TestAlwaysTheSamePlays(t *testing.T) {
	var r draw = 151
	for range 10 {
		scripts := r.scripts(r.below(41))
		for _, blocks := range []int{1, 12, 60} {
			plays(t, scripts, blocks, byHand(t, scripts, blocks)...)
		}
	}
}

// Many times over, by each number of workers: none of the ways in which they may
// come to their turns shows.
func TestAlwaysManyTimesOver(t *testing.T) {
	var r draw = 152
	l := r.trees(100, 1<<15)
	texts, _, err := oneByOne(l)
	if err != nil {
		t.Fatal(err)
	}
	bad := slices.Clone(l)
	bad[60], bad[61], bad[99] = api.Node{}, link(""), file(long(api.MaxData+1))
	scripts := r.scripts(17)
	ends := byHand(t, scripts, 20)
	for range 60 {
		writes(t, l, texts...)
		notWell(t, bad, 60, api.ErrKind)
	}
	for range 12 {
		plays(t, scripts, 20, ends...)
	}
}

// Many calls at once, of the same lists: none sees another.
func TestAlwaysManyCallsAtOnce(t *testing.T) {
	var r draw = 153
	l, scripts := r.trees(100, 1<<15), r.scripts(9)
	texts, _, err := oneByOne(l)
	if err != nil {
		t.Fatal(err)
	}
	ends := byHand(t, scripts, 20)
	var calls sync.WaitGroup
	for range 8 {
		calls.Go(func() { writes(t, l, texts...) })
		calls.Go(func() { plays(t, scripts, 20, ends...) })
		calls.Go(func() {
			textsFail(t, l, 0, api.ErrShape)
			playsFail(t, scripts, 0, 3, api.ErrBound)
			if got, err := side.Plays(nil, 1, 16); len(got) != 0 || err != nil {
				t.Error(got, err)
			}
		})
	}
	calls.Wait()
}
