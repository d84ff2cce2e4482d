package refs_test

import (
	"fmt"
	"slices"
	"testing"

	"stillroom/api"
	"stillroom/plain"
	"stillroom/refs"
	"stillroom/tree"
)

// packs draws packs that are well, with names that do not rise.
func (d *draw) packs(n int) []api.Pack {
	var l []api.Pack
	for i := range n {
		p := pack(fmt.Sprintf("%c%d", 'a'+d.below(4), i))
		for _, q := range append(l, p) {
			if d.below(5) == 0 && len(p.Refs) < api.MaxRefs {
				p.Refs = append(p.Refs, q.Name)
			}
		}
		slices.Sort(p.Refs)
		l = append(l, p)
	}
	return l
}

// some draws names of packs, maybe one of them twice; or all that nobody needs,
// so that none is dead.
func (d *draw) some(l []api.Pack) []string {
	var names []string
	if d.below(5) == 0 {
		for i, p := range l {
			if !slices.ContainsFunc(l[i+1:], func(q api.Pack) bool { return slices.Contains(q.Refs, p.Name) }) {
				names = append(names, p.Name)
			}
		}
		return names
	}
	for range d.below(4) {
		if len(l) > 0 {
			names = append(names, l[d.below(len(l))].Name)
		}
	}
	return names
}

// slowly tells a closure by another way: all Refs of all that are there, until
// none is new.
func slowly(l []api.Pack, of []string) []string {
	got := slices.Compact(slices.Sorted(slices.Values(of)))
	for {
		more := got
		for _, p := range l {
			if slices.Contains(got, p.Name) {
				more = slices.Concat(more, p.Refs)
			}
		}
		more = slices.Compact(slices.Sorted(slices.Values(more)))
		if len(more) == len(got) {
			return got
		}
		got = more
	}
}

func closure(t *testing.T, l []api.Pack, of []string) []string {
	t.Helper()
	got, err := refs.Closure(l, of)
	if err != nil {
		t.Fatalf("Closure(%q): %v", of, err)
	}
	return got
}

// closed: a closure has its names, and all Refs of what it has; its closure is
// it.
func closed(t *testing.T, l []api.Pack, of []string) []string {
	t.Helper()
	c := closure(t, l, of)
	if want := slowly(l, of); !slices.Equal(c, want) {
		t.Errorf("Closure(%q): %q, want %q, of %v", of, c, want, l)
	}
	if again := closure(t, l, c); !slices.Equal(again, c) {
		t.Errorf("the closure of %q is %q", c, again)
	}
	back := slices.Clone(c)
	slices.Reverse(back)
	if again := closure(t, l, append(back, of...)); !slices.Equal(again, c) {
		t.Errorf("the closure of %q is %q", back, again)
	}
	return c
}

// buried: what is dead is what the closure has not; whom it is used by is dead,
// and stands ahead of it.
func buried(t *testing.T, l []api.Pack, roots, alive []string) []string {
	t.Helper()
	dead, err := refs.Dead(l, roots)
	var want []string
	for _, p := range slices.Backward(l) {
		if !slices.Contains(alive, p.Name) {
			want = append(want, p.Name)
		}
	}
	if err != nil || !slices.Equal(dead, want) {
		t.Errorf("Dead(%q): %q, %v, want %q, of %v", roots, dead, err, want, l)
	}
	for i, name := range dead {
		users, err := refs.Users(l, name)
		if err != nil {
			t.Errorf("Users(%q): %v", name, err)
		}
		for _, u := range users {
			if k := slices.Index(dead, u); k < 0 || k >= i {
				t.Errorf("%s is dead, used by %s: %q", name, u, dead)
			}
		}
	}
	return dead
}

// P112.
func TestAlways(t *testing.T) {
	told := map[string]int{}
	for i := range 2000 {
		d := draw(i)
		l := d.packs(d.below(1 + d.below(api.MaxPacks+1))) // few of them too
		checks(t, fmt.Sprint(i), l)
		roots := d.some(l)
		alive := closed(t, l, roots)
		dead := buried(t, l, roots, alive)
		told[fmt.Sprint(len(alive) > len(roots), " ", len(dead) > 0)]++
		for _, p := range l {
			usersOf(t, l, p.Name, told)
		}
		goOneByOne(t, l, dead)
		if t.Failed() {
			t.Fatal(i)
		}
	}
	for _, s := range []string{"true true", "true false", "false true", "users", "itself"} {
		if told[s] < 20 {
			t.Errorf("%s is told %d times: too few to try it", s, told[s])
		}
	}
}

func usersOf(t *testing.T, l []api.Pack, name string, told map[string]int) {
	t.Helper()
	var want []string
	for _, p := range l {
		if slices.Contains(p.Refs, name) && p.Name != name {
			want = append(want, p.Name)
			told["users"]++
		} else if slices.Contains(p.Refs, name) {
			told["itself"]++
		}
	}
	slices.Sort(want)
	if got, err := refs.Users(l, name); err != nil || !slices.Equal(got, want) {
		t.Errorf("Users(%q): %q, %v, want %q, of %v", name, got, err, want, l)
	}
}

// goOneByOne: in the order in which they are told, each dead one may go while
// what is left is well.
func goOneByOne(t *testing.T, l []api.Pack, dead []string) {
	t.Helper()
	for _, name := range dead {
		uses(t, l, name, "")
		l = slices.DeleteFunc(slices.Clone(l), func(p api.Pack) bool { return p.Name == name })
		checks(t, "without "+name, l)
	}
}

// wrongs draws packs with few names, so that most lists have a fault.
func (d *draw) wrongs() []api.Pack {
	some := names("a", "b", "c", "a-", "d", "e", "f", "")
	var l []api.Pack
	for range d.below(5) {
		p := pack(some[d.below(len(some))])
		for _, name := range some {
			if d.below(6) == 0 {
				p.Refs = append(p.Refs, name)
			}
		}
		if d.below(4) > 0 {
			slices.Sort(p.Refs)
		}
		if d.below(20) == 0 {
			p.Refs = slices.Repeat(names("a"), api.MaxRefs+d.below(2))
		}
		l = append(l, p)
	}
	return l
}

// wrong tells the first fault by the words of the document, without sets.
func wrong(l []api.Pack) (int, error) {
	for i, p := range l {
		ahead := func(name string) bool {
			return slices.ContainsFunc(l[:i], func(q api.Pack) bool { return q.Name == name })
		}
		rising := slices.Clone(p.Refs)
		slices.Sort(rising)
		rising = slices.Compact(rising)
		switch {
		case !tree.Name(p.Name):
			return i, api.ErrName
		case ahead(p.Name):
			return i, api.ErrExist
		case len(p.Refs) > api.MaxRefs:
			return i, api.ErrFull
		case !slices.Equal(rising, p.Refs):
			return i, api.ErrOrder
		}
		for _, r := range p.Refs {
			if r != p.Name && !ahead(r) {
				return i, api.ErrNone
			}
		}
	}
	return -1, nil
}

func TestAlwaysTheFirstFault(t *testing.T) {
	told := map[int]int{}
	for i := range 5000 {
		d := draw(i)
		l := d.wrongs()
		at, err := wrong(l)
		code, _ := plain.Code(err)
		told[code]++
		if err == nil {
			checks(t, fmt.Sprint(i), l)
		} else {
			fails(t, fmt.Sprint(i), l, at, err)
		}
		if t.Failed() {
			t.Fatal(i, l)
		}
	}
	for _, err := range []error{nil, api.ErrName, api.ErrExist, api.ErrFull, api.ErrOrder, api.ErrNone} {
		if code, _ := plain.Code(err); told[code] < 20 {
			t.Errorf("%v is told %d times: too few to try it", err, told[code])
		}
	}
}
