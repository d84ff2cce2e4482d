package words_test

import (
	"errors"
	"slices"
	"strings"
	"testing"

	"stillroom/api"
	"stillroom/words"
)

// splits tells whether a line has these words, and as many of them alone.
func splits(t *testing.T, line string, want ...string) {
	t.Helper()
	for count := 1; count <= len(want)+2; count++ {
		got, err := words.Split(line, count)
		if count != len(want) {
			if len(got) != 0 || err != api.ErrText {
				t.Errorf("%q into %d: %q, %v", line, count, got, err)
			}
			continue
		}
		if err != nil || !slices.Equal(got, want) {
			t.Errorf("%q: %q, %v, want %q", line, got, err, want)
		}
	}
	if got := words.First(line); got != want[0] {
		t.Errorf("first of %q: %q, want %q", line, got, want[0])
	}
}

func TestSplit(t *testing.T) {
	splits(t, "a", "a")
	splits(t, "a b", "a", "b")
	splits(t, "add a f1:x", "add", "a", "f1:x")
	splits(t, "a\tb\nc", "a\tb\nc")
	splits(t, "", "")
	splits(t, " ", "", "")
	splits(t, "a ", "a", "")
	splits(t, " a", "", "a")
	splits(t, "a  b", "a", "", "b")
	splits(t, "   ", "", "", "", "")
}

func TestSplitToEnd(t *testing.T) {
	for _, c := range []struct {
		line  string
		count int
		want  []string
	}{
		{"a", 1, []string{"a"}},
		{"a b c ", 1, []string{"a b c "}},
		{"", 1, []string{""}},
		{"mend 0 x y  z ", 3, []string{"mend", "0", "x y  z "}},
		{"mend 0 ", 3, []string{"mend", "0", ""}},
		{"mend 0  ", 3, []string{"mend", "0", " "}},
		{"mend  x", 3, []string{"mend", "", "x"}},
	} {
		if got, err := words.SplitToEnd(c.line, c.count); err != nil || !slices.Equal(got, c.want) {
			t.Errorf("%q into %d: %q, %v, want %q", c.line, c.count, got, err, c.want)
		}
	}
	for _, c := range []struct {
		line  string
		count int
	}{{"", 2}, {"a", 2}, {"mend 0", 3}, {"mend", 3}, {"mend ", 3}} {
		if got, err := words.SplitToEnd(c.line, c.count); len(got) != 0 || err != api.ErrText {
			t.Errorf("%q into %d: %q, %v", c.line, c.count, got, err)
		}
	}
}

func TestNumbers(t *testing.T) {
	got, err := words.Numbers("0", "9", "10", "100000", "999999")
	if err != nil || !slices.Equal(got, []int{0, 9, 10, 100000, 999999}) {
		t.Errorf("%v, %v", got, err)
	}
	if got, err := words.Numbers(); len(got) != 0 || err != nil {
		t.Errorf("of none: %v, %v", got, err)
	}
	for _, word := range []string{"", "x", "00", "01", "-1", "-0", "+1", "1000000", "0000000", strings.Repeat("9", 40), "1.0", "0x1", "1_0", "١", "1 ", " 1", "1\n"} {
		for _, l := range [][]string{{word}, {"1", word}, {word, "1"}} {
			if got, err := words.Numbers(l...); len(got) != 0 || err != api.ErrText {
				t.Errorf("%q: %v, %v", l, got, err)
			}
		}
	}
}

func TestAnswers(t *testing.T) {
	why := errors.New("why")
	for _, err := range []error{nil, why} {
		for _, c := range []struct {
			tell func() (string, error)
			want string
		}{
			{func() (string, error) { return words.Done(err) }, "ok"},
			{func() (string, error) { return words.Number(0, err) }, "0"},
			{func() (string, error) { return words.Number(120, err) }, "120"},
			{func() (string, error) { return words.List(nil, err) }, "nothing"},
			{func() (string, error) { return words.List([]string{}, err) }, "nothing"},
			{func() (string, error) { return words.List([]string{"a"}, err) }, "a"},
			{func() (string, error) { return words.List([]string{"b", "a", "c"}, err) }, "b a c"},
		} {
			if got, gotErr := c.tell(); got != c.want || gotErr != err {
				t.Errorf("%q, %v, want %q, %v", got, gotErr, c.want, err)
			}
		}
	}
}
