package store_test

import (
	"testing"

	"stillroom/api"
	"stillroom/disk"
	"stillroom/inode"
)

func TestOpt(t *testing.T) {
	s := newStore(t, 20)
	answers(t, s, "opt", "0")
	a := dir(kid("a", file("x")), kid("b", file("x")), kid("c", runs("x")), kid("d", file("")))
	b := dir(kid("a", runs("x")), kid("b", dir(kid("c", file(long(20))))), kid("d", file("")))
	c := file(long(20))
	does(t, s, add("a", a), add("b", b), "opt", add("c", c))
	answers(t, s, "opt", "1", "opt", "0", "saved", "4", "free", "16")
	answers(t, s, "where 0", "a/a a/b", "where 1", "b/b/c c/", "where 2", "a/c b/a", "where 3", "a/d b/d", "where 4", "nothing")
	// What is read behind it is as it was.
	packsAre(t, s, api.Pack{Name: "a", Tree: a}, api.Pack{Name: "b", Tree: b}, api.Pack{Name: "c", Tree: c})
	answers(t, s, "read a /b", "x", "read b /b/c", long(20), "read b /a", "x", "read c /", long(20))
	statsAre(t, s,
		inode.Stat{Bytes: 1, Links: 2, Blocks: []int{0}, Sum: disk.Sum("x")},
		inode.Stat{Bytes: 20, Links: 2, Blocks: []int{1, 3}, Sum: disk.Sum(long(20))},
		inode.Stat{Bytes: 1, Links: 2, Exec: true, Blocks: []int{2}, Sum: disk.Sum("x")},
		inode.Stat{Links: 2})
	opens(t, s, 20)
}

// All of them, and how many.
func TestOptCounts(t *testing.T) {
	s := newStore(t, 9, "add a f1:x", "add b f1:x", "add c f1:x", "add d f1:y", "add e f1:x")
	answers(t, s, "saved", "0", "opt", "3", "saved", "3", "where 0", "a/ b/ c/ e/", "opt", "0", "add f f1:y", "ok", "opt", "1", "where 1", "d/ f/", "where 3", "nothing")
	opens(t, s, 9)
}

func TestOptWithWhatRotted(t *testing.T) {
	s := newStore(t, 9, "add a f1:x", "add b f1:x", "add c f1:x", "rot 0 1")
	answers(t, s, "opt", "1", "where 0", "a/", "where 1", "b/ c/", "scan", "0", "read b /", "x", "mend 0 x", "ok", "opt", "2", "where 0", "a/ b/ c/")
	opens(t, s, 9)
}

func TestRot(t *testing.T) {
	s := newStore(t, 4, add("a", dir(kid("f", file(long(17))), kid("g", file("y")))), "add b f1:z")
	answers(t, s, "scan", "nothing", "rot 1 7", "ok", "scan", "0", "rot 3 0", "ok", "scan", "0 2")
	refuses(t, s, api.ErrSum, "read a /f", "read a /g", "read a /", "read b /") // a tree is read, or it is not
	answers(t, s, "list", "a b", "refs a", "nothing", "where 0", "a/f", "free", "0")
	answers(t, s, "rot 1 7", "ok", "read a /g", "y", "read a /f", long(17), "scan", "2")
	opens(t, s, 4)
	refuses(t, s, api.ErrBound, "rot 4 0", "rot 4 128", "rot 0 128", "rot 3 1000", "rot 512 0")
	answers(t, s, "rot 0 127", "ok", "rot 0 0", "ok", "scan", "0 2", "rot 0 127", "ok", "scan", "0 2", "rot 0 0", "ok", "scan", "2")
	opens(t, s, 4)
}

// A block that is free, and bits behind a file's last byte: nobody can tell.
func TestRotOfWhatNobodyReads(t *testing.T) {
	s := newStore(t, 4, "add a f1:x")
	was := told(s)
	does(t, s, "rot 1 0", "rot 3 127", "rot 0 8", "rot 0 127")
	if now := told(s); now != was {
		t.Errorf("%s, was %s", now, was)
	}
	holds(t, s.Tape(), records("add a f1:x", "rot 1 0", "rot 3 127", "rot 0 8", "rot 0 127"))
	answers(t, s, add("b", file(long(32))), "ok", "read b /", long(32), "scan", "nothing")
	opens(t, s, 4)
}

func TestMend(t *testing.T) {
	s := newStore(t, 9, add("a", dir(kid("f", file("hello")), kid("g", file("hello")))), "add b f3:a b", "opt", "rot 0 3", "rot 2 20")
	answers(t, s, "where 0", "a/f a/g", "where 2", "b/", "scan", "0 2")
	refuses(t, s, api.ErrSum, "mend 0 hellp", "mend 0 hell", "mend 0 hello ", "mend 0 ", "mend 0 Hello", "mend 2 a", "mend 2 ab ")
	refuses(t, s, api.ErrNone, "mend 1 hello", "mend 3 hello", "mend 9 ")
	answers(t, s, "mend 0 hello", "ok", "scan", "2", "read a /f", "hello", "read a /g", "hello", "mend 2 a b", "ok", "scan", "nothing", "read b /", "a b")
	opens(t, s, 9)
}

// What is whole is not mended; of other bytes that is not told.
func TestMendOfWhatIsWhole(t *testing.T) {
	s := newStore(t, 9, "add a f1:x", "add b f0:")
	refuses(t, s, api.ErrExist, "mend 0 x", "mend 1 ")
	refuses(t, s, api.ErrSum, "mend 0 y", "mend 0 ", "mend 1 x")
	refuses(t, s, api.ErrNone, "mend 2 x")
	does(t, s, "rot 0 0", "rot 0 0")
	refuses(t, s, api.ErrExist, "mend 0 x")
	does(t, s, "rot 0 0", "mend 0 x")
	refuses(t, s, api.ErrExist, "mend 0 x")
}

// Its bytes go to the line's end, whatever they are.
func TestMendOfAnyBytes(t *testing.T) {
	for _, data := range []string{" ", "  x  ", "\n", "a\nb\n", "\x00\xff", "0 x", "1:a\n.", long(40)} {
		s := newStore(t, 9, add("a", file(data)), "rot 0 0")
		refuses(t, s, api.ErrSum, "read a /", "mend 0 "+data[1:], "mend 0 "+data+" ")
		answers(t, s, "mend 0 "+data, "ok", "read a /", data)
		opens(t, s, 9)
	}
}

func TestPacksOfWhatRotted(t *testing.T) {
	s := newStore(t, 9, "add a f1:x", add("b", dir(kid("f", file("y")), kid("g", link("z")))), "add c f2:#a")
	does(t, s, "rot 1 2")
	if l, err := s.Packs(); l != nil || err != api.ErrSum {
		t.Errorf("Packs: %v, %v", l, err)
	}
	answers(t, s, "list", "a b c", "refs c", "a", "users a", "c", "need c", "a c", "read a /", "x")
	refuses(t, s, api.ErrSum, "read b /", "read b /g", "read b /q", "read b q")
	opens(t, s, 9)
	does(t, s, "mend 1 y")
	packsAre(t, s,
		api.Pack{Name: "a", Tree: file("x")},
		api.Pack{Name: "b", Tree: dir(kid("f", file("y")), kid("g", link("z")))},
		api.Pack{Name: "c", Refs: []string{"a"}, Tree: file("#a")})
}
