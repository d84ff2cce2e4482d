// Package given holds the tests of what is given whole: packages api and plain.
// They stand here so that the folders of those two stay as they were given.
package given

import (
	"crypto/sha256"
	"errors"
	"fmt"
	"os"
	"testing"

	"stillroom/api"
	"stillroom/plain"
)

func TestBounds(t *testing.T) {
	for _, c := range []struct {
		name      string
		got, want int
	}{
		{"MaxName", api.MaxName, 12},
		{"MaxData", api.MaxData, 2000},
		{"MaxLink", api.MaxLink, 40},
		{"MaxNodes", api.MaxNodes, 200},
		{"MaxDeep", api.MaxDeep, 8},
		{"MaxFollow", api.MaxFollow, 16},
		{"MaxText", api.MaxText, 20000},
		{"BlockSize", api.BlockSize, 16},
		{"MaxBlocks", api.MaxBlocks, 512},
		{"MaxPacks", api.MaxPacks, 40},
		{"MaxRefs", api.MaxRefs, 20},
		{"MaxBytes", api.MaxBytes, 1048576},
		{"MaxScript", api.MaxScript, 80},
		{"Workers", api.Workers, 16},
	} {
		if c.got != c.want {
			t.Errorf("%s is %d, want %d", c.name, c.got, c.want)
		}
	}
}

func TestErrors(t *testing.T) {
	for i, c := range []struct {
		err  error
		text string
	}{
		{api.ErrText, "stillroom: text"},
		{api.ErrBound, "stillroom: bound"},
		{api.ErrShape, "stillroom: shape"},
		{api.ErrKind, "stillroom: kind"},
		{api.ErrName, "stillroom: name"},
		{api.ErrNone, "stillroom: none"},
		{api.ErrExist, "stillroom: exist"},
		{api.ErrFull, "stillroom: full"},
		{api.ErrDeep, "stillroom: deep"},
		{api.ErrOrder, "stillroom: order"},
		{api.ErrSum, "stillroom: sum"},
		{api.ErrInUse, "stillroom: in use"},
		{api.ErrOff, "stillroom: off"},
	} {
		if c.err.Error() != c.text {
			t.Errorf("%q, want %q", c.err.Error(), c.text)
		}
		if code, at := plain.Code(c.err); code != i+1 || at != -1 {
			t.Errorf("%v: code %d at %d, want %d at -1", c.err, code, at, i+1)
		}
		f := &api.Fault{At: 7, Err: c.err}
		if code, at := plain.Code(f); code != i+1 || at != 7 {
			t.Errorf("%v with a place: code %d at %d, want %d at 7", c.err, code, at, i+1)
		}
		if f.Error() != c.text || f.Unwrap() != c.err || !errors.Is(f, c.err) {
			t.Errorf("%v with a place tells another error", c.err)
		}
	}
}

func TestOtherErrors(t *testing.T) {
	if code, at := plain.Code(nil); code != 0 || at != -1 {
		t.Error("nil:", code, at)
	}
	if code, at := plain.Code(errors.New("stillroom: text")); code != -1 || at != -1 {
		t.Error("another error:", code, at)
	}
	if code, at := plain.Code(&api.Fault{At: 3, Err: errors.New("other")}); code != -1 || at != 3 {
		t.Error("another error with a place:", code, at)
	}
}

func TestStayToTheByte(t *testing.T) {
	for _, c := range []struct{ file, sum string }{
		{"../api/api.go", "a824f848fd409fa8fea9a24abb40131d86d40c3cfe8b0b16ab0c8249fbcc9523"},
		{"../plain/plain.go", "d872af9d628b128d19338039b7f96ad6b7345f959bec402a2327f584a320eaa1"},
	} {
		text, err := os.ReadFile(c.file)
		if err != nil {
			t.Fatal(err)
		}
		if sum := fmt.Sprintf("%x", sha256.Sum256(text)); sum != c.sum {
			t.Errorf("%s is not what was given: %s", c.file, sum)
		}
	}
}
