package path_test

import (
	"slices"
	"testing"

	"stillroom/api"
	"stillroom/path"
)

func TestSplit(t *testing.T) {
	for _, c := range []struct {
		s    string
		want []string
	}{
		{"/", nil},
		{"/a", []string{"a"}},
		{"/a/b", []string{"a", "b"}},
		{"/a/a/a", []string{"a", "a", "a"}},
		{"/-/.a/a./.../0.9-z", []string{"-", ".a", "a.", "...", "0.9-z"}},
		{"/" + bytes(api.MaxName), []string{bytes(api.MaxName)}},
		{down(api.MaxDeep), []string{"d", "d", "d", "d", "d", "d", "d", "d"}},
		{down(api.MaxDeep-1) + "/e", []string{"d", "d", "d", "d", "d", "d", "d", "e"}},
	} {
		if l, err := path.Split(c.s); err != nil || !slices.Equal(l, c.want) {
			t.Errorf("%q: %q, %v, want %q", c.s, l, err, c.want)
		}
	}
}

// The error is wanted bare: no chapter tells a place here.
func TestSplitNoPath(t *testing.T) {
	for _, s := range noPaths() {
		if l, err := path.Split(s); err != api.ErrName || len(l) != 0 {
			t.Errorf("%.40q: %q, %v, want %v", s, l, err, api.ErrName)
		}
	}
}

func TestSplitEachByte(t *testing.T) {
	for c := range 256 {
		well := c >= 'a' && c <= 'z' || c >= '0' && c <= '9' || c == '-'
		name := string([]byte{byte(c)})
		l, err := path.Split("/a/" + name)
		if well && (err != nil || !slices.Equal(l, []string{"a", name})) {
			t.Errorf("%q: %q, %v", name, l, err)
		}
		if !well && (err != api.ErrName || len(l) != 0) {
			t.Errorf("%q: %q, %v, want %v", name, l, err, api.ErrName)
		}
	}
}

func TestSplitGivesNewMemory(t *testing.T) {
	a, _ := path.Split("/a/b")
	b, _ := path.Split("/a/b")
	a[0] = "z"
	if c, err := path.Split("/a/b"); err != nil || b[0] != "a" || c[0] != "a" {
		t.Error("what is written into one answer shows in another")
	}
}
