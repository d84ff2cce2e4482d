package side_test

import (
	"fmt"
	"slices"
	"strings"
	"testing"

	"stillroom/api"
	"stillroom/side"
)

// tale is a script in which something of each kind happens.
func tale() []string {
	return []string{
		add("lib", dir(kid("a", file("hello")), kid("b", file("hello")))),
		add("app", dir(kid("run", runs("use #lib")))),
		add("old", file(long(40))),
		"root app", "opt", "gc", "root lib",
	}
}

func TestPlays(t *testing.T) {
	plays(t, [][]string{tale()}, 9, played("lib app", "app lib", "7", "1"))
	plays(t, [][]string{
		{add("b", file("x")), add("a", file("x"))},
		{add("b", file("x")), add("a", file("x")), "root b", "root a", "opt"},
		{add("b", file("x")), "gc"},
		{add("a", file(long(33))), "root a", "unroot a"},
		{add("a", file("x")), "rot 0 0", add("b", file("x")), "opt"},
		{add("a", file("x")), "rot 0 0", add("b", file("x")), "mend 0 x", "opt"},
	}, 9,
		played("b a", "nothing", "7", "0"),
		played("b a", "a b", "8", "1"),
		played("nothing", "nothing", "9", "0"),
		played("a", "nothing", "6", "0"),
		played("a b", "nothing", "7", "0"),
		played("a b", "nothing", "8", "1"))
}

func TestPlaysOfNone(t *testing.T) {
	plays(t, nil, 9)
	plays(t, [][]string{}, 9)
}

func TestPlaysOfNoLines(t *testing.T) {
	nothing := played("nothing", "nothing", "9", "0")
	plays(t, [][]string{nil}, 9, nothing)
	plays(t, [][]string{{}}, 9, nothing)
	plays(t, [][]string{nil, tale(), {}}, 9, nothing, played("lib app", "app lib", "7", "1"), nothing)
	plays(t, make([][]string, 40), 9, slices.Repeat([]string{nothing}, 40)...)
}

// Whoever asks changes nothing.
func TestPlaysThatAskAlone(t *testing.T) {
	asks := []string{"list", "roots", "scan", "free", "saved", "where 0", "refs a", "users a", "need a", "read a /"}
	plays(t, [][]string{asks, append(tale(), asks...)}, 9,
		played("nothing", "nothing", "9", "0"), played("lib app", "app lib", "7", "1"))
}

// A line with an error is gone past, and what comes behind it is done: whichever
// error it is, and wherever it stands.
func TestPlaysGoPastErrors(t *testing.T) {
	wrong := []string{
		"", "what", " list", "add", "gc ", "cut 3", "again", "rot 01 0", // ErrText
		"add A f0:", "add a f1", "add a l0:", "root x", "unroot x", "mend 7 x", "rot 9 0", "read x /", "need x",
		add("new", file(long(200))), "add new " + strings.Repeat("x", api.MaxText+1),
	}
	plays(t, [][]string{wrong}, 9, played("nothing", "nothing", "9", "0"))
	var l []string
	for i, line := range tale() {
		l = append(append(l, wrong[2*i], wrong[2*i+1]), line)
		l = append(l, wrong[14:]...)
	}
	plays(t, [][]string{l}, 9, played("lib app", "app lib", "7", "1"))
	// These are wrong by what is there.
	plays(t, [][]string{{
		"root a", add("a", file("x")), add("a", file("yy")), "root a", "root a", add("b", file("x")),
		"unroot b", "mend 0 x", "gc", "root b", add("c", file(long(129))), "mend 9 x",
	}}, 9, played("a", "a", "8", "0"))
}

// Each has a store of its own: packs, roots, blocks and bits that turned are its.
func TestPlaysAreApart(t *testing.T) {
	a := []string{add("a", file("x")), "root a", "rot 0 0"}
	b := []string{"root a", "mend 0 x", add("b", file("x")), add("c", file("x")), "opt"}
	wantA, wantB := played("a", "a", "2", "0"), played("b c", "nothing", "2", "1")
	plays(t, [][]string{a, b}, 3, wantA, wantB)
	plays(t, [][]string{b, a}, 3, wantB, wantA)
	var scripts [][]string
	var want []string
	for range 20 {
		scripts, want = append(scripts, a, b), append(want, wantA, wantB)
	}
	plays(t, scripts, 3, want...)
}

func TestPlaysThatAreAlike(t *testing.T) {
	plays(t, slices.Repeat([][]string{tale()}, 40), 9,
		slices.Repeat([]string{played("lib app", "app lib", "7", "1")}, 40)...)
}

// numbered are that many scripts, no two of which end alike.
func numbered(count int) ([][]string, []string) {
	var scripts [][]string
	var want []string
	for i := range count {
		name := fmt.Sprintf("p%d", i)
		scripts = append(scripts, []string{add(name, file(long(16*i))), "root " + name})
		want = append(want, played(name, name, fmt.Sprint(50-i), "0"))
	}
	return scripts, want
}

func TestPlaysMeetTheirBound(t *testing.T) {
	for _, count := range []int{1, 2, 15, 16, 17, 39, 40} {
		scripts, want := numbered(count)
		plays(t, scripts, 50, want...)
	}
	scripts, _ := numbered(41)
	for w := 1; w <= api.Workers; w++ {
		playsFail(t, scripts, 50, w, api.ErrBound)
		playsFail(t, make([][]string, 41), 50, w, api.ErrBound)
		playsFail(t, make([][]string, 5000), 50, w, api.ErrBound)
	}
}

// lines are that many: the last one alone leaves a root.
func lines(count int) []string {
	return append(append([]string{add("a", file("x"))}, slices.Repeat([]string{"list"}, count-2)...), "root a")
}

// Lines that ask, that have an error, or no bytes, are lines too.
func TestPlaysMeetMaxScript(t *testing.T) {
	want := played("a", "a", "8", "0")
	plays(t, [][]string{lines(2), lines(api.MaxScript - 1), lines(api.MaxScript)}, 9, want, want, want)
	nothing := played("nothing", "nothing", "9", "0")
	plays(t, [][]string{make([]string, api.MaxScript)}, 9, nothing)
	for w := 1; w <= api.Workers; w++ {
		for _, at := range []int{0, 1, 20, 38, 39} {
			for _, long := range [][]string{lines(api.MaxScript + 1), make([]string, api.MaxScript+1), make([]string, 5000)} {
				scripts, _ := numbered(40)
				scripts[at] = long
				playsFail(t, scripts, 9, w, api.ErrBound)
				playsFail(t, scripts[:at+1], 9, w, api.ErrBound)
			}
		}
	}
}

func TestPlaysBlocks(t *testing.T) {
	for _, blocks := range []int{1, 2, api.MaxBlocks - 1, api.MaxBlocks} {
		most := fmt.Sprintf("rot %d 0", blocks-1)
		plays(t, [][]string{nil, {add("a", file("x")), "root a", most}}, blocks,
			played("nothing", "nothing", fmt.Sprint(blocks), "0"), played("a", "a", fmt.Sprint(blocks-1), "0"))
	}
	plays(t, [][]string{{add("a", file(long(17))), add("b", file(long(16))), add("c", file("x"))}}, 1, played("b", "nothing", "0", "0"))
	var l []string
	for i := range 6 {
		l = append(l, add(fmt.Sprintf("p%d", i), file(long(api.MaxData))))
	}
	plays(t, [][]string{l}, api.MaxBlocks, played("p0 p1 p2 p3", "nothing", "12", "0")) // 125 blocks each
	for _, blocks := range wrongBlocks() {
		for w := 1; w <= api.Workers; w++ {
			scripts, _ := numbered(3)
			playsFail(t, nil, blocks, w, api.ErrBound)
			playsFail(t, [][]string{}, blocks, w, api.ErrBound)
			playsFail(t, scripts, blocks, w, api.ErrBound)
			playsFail(t, append(scripts, make([]string, api.MaxScript+1)), blocks, w, api.ErrBound)
			playsFail(t, make([][]string, 41), blocks, w, api.ErrBound)
		}
	}
}

// The number of workers is told ahead of all.
func TestPlaysWorkers(t *testing.T) {
	tooLong := [][]string{make([]string, api.MaxScript+1)}
	for _, w := range wrongWorkers() {
		for _, scripts := range [][][]string{nil, {}, {nil}, {tale()}, make([][]string, 40), make([][]string, 41), tooLong} {
			for _, blocks := range append(wrongBlocks(), 1, 9, api.MaxBlocks) {
				playsFail(t, scripts, blocks, w, api.ErrShape)
			}
		}
	}
}

// What is handed over is only read, and not behind its end.
func TestPlaysOnlyRead(t *testing.T) {
	script := append(tale(), make([]string, api.MaxScript)...)
	all := [][]string{script[:7], script[:2], script, nil}
	was := fmt.Sprintf("%q", all)
	plays(t, all[:2], 9, played("lib app", "app lib", "7", "1"), played("lib app", "nothing", "6", "0"))
	playsFail(t, all[:3], 9, 4, api.ErrBound)
	if now := fmt.Sprintf("%q", all); now != was {
		t.Errorf("%s, was %s", now, was)
	}
}

// What is answered is new memory, and does not show what is changed later.
func TestPlaysAreNewMemory(t *testing.T) {
	scripts := [][]string{tale(), {add("a", file("x"))}}
	a, _ := side.Plays(scripts, 9, 2)
	b, _ := side.Plays(scripts, 9, 2)
	a[0] = "spoilt"
	_ = append(a[:1], "spoilt")
	scripts[0][0], scripts[1] = "spoilt", nil
	if !slices.Equal(b, []string{played("lib app", "app lib", "7", "1"), played("a", "nothing", "8", "0")}) {
		t.Errorf("%q", b)
	}
}
