package scan_test

import (
	"fmt"
	"slices"
	"strings"
	"testing"

	"stillroom/api"
	"stillroom/scan"
)

// The document's own example.
func TestFind(t *testing.T) {
	finds(t, "see #a.b, #a", names("a", "a.b"), "a a.b")
	finds(t, "see #a.b, #a", names("a"), "a")
	finds(t, "see #a.b, #a", names("b", "see", "a.b"), "a.b")
	finds(t, "#lib\n#tool\n", names("app", "lib", "tool"), "lib tool")
}

func TestFindAtTheEnds(t *testing.T) {
	finds(t, "#a", names("a"), "a")
	finds(t, "x #a", names("a"), "a")
	finds(t, "#a x", names("a"), "a")
	finds(t, "x#a", names("a"), "a") // what stands ahead of the `#` does not count
	finds(t, "#abcdefghijkl", names("abcdefghijkl"), "abcdefghijkl")
}

// Whatever byte stands behind: one that a name may have makes it another word.
func TestFindAheadOfAnyByte(t *testing.T) {
	for c := range 256 {
		behind := string([]byte{byte(c)})
		want := "a"
		if strings.Contains(nameBytes, behind) {
			want = ""
		}
		finds(t, "#a"+behind, names("a"), want)
		finds(t, "#a"+behind+" b", names("a"), want)
		finds(t, "#a"+behind+"#", names("a"), want)
	}
}

// Every byte that a name may have is looked for, at each place of it.
func TestFindAnyNameByte(t *testing.T) {
	for _, c := range nameBytes {
		for _, name := range names("a"+string(c), string(c)+"a", "a"+string(c)+"a") {
			finds(t, "see #"+name+", #", names("a", name), name)
		}
	}
}

func TestFindANameThatAnotherBegins(t *testing.T) {
	all := names("a", "ab", "abc", "a.b", "a-", "a.")
	for _, name := range all {
		finds(t, "#"+name, all, name)
		finds(t, "#"+name+" #", all, name)
	}
	finds(t, "#abcd", all, "")
	finds(t, "#a..", all, "")
	finds(t, "#a.", names("a"), "")
	finds(t, "#ab #a", all, "a ab")
	finds(t, "#b", all, "")
}

func TestFindWithoutAMention(t *testing.T) {
	all := names("a", "b", "-", "...", "0")
	for _, s := range names("", "a", "# a", "#", "##", "###", "a#", "a##", "#\x00a", "#A", "#Aa", "a b", "#/a", "\xff#\xff", "#é") {
		finds(t, s, all, "")
	}
}

func TestFindTwoMarksInARow(t *testing.T) {
	finds(t, "##a", names("a"), "a")
	finds(t, "###a#", names("a"), "a")
	finds(t, "#a##b", names("a", "b"), "a b")
	finds(t, "# #a", names("a"), "a")
}

func TestFindBehindAMention(t *testing.T) {
	finds(t, "#a#b", names("a", "b"), "a b")
	finds(t, "#b#a#b", names("a", "b"), "a b")
	finds(t, "#a#b#", names("a", "b"), "a b")
	finds(t, "#ab#b", names("a", "b"), "b")
}

func TestFindNoNames(t *testing.T) {
	for _, s := range names("", "#a", "#a #b", "#", "##") {
		finds(t, s, nil, "")
		finds(t, s, []string{}, "")
	}
}

// Names may be told twice, and in any order; what is found rises, each once.
func TestFindNamesTwiceOrNotRising(t *testing.T) {
	finds(t, "#a", names("a", "a"), "a")
	finds(t, "#a #a", names("a"), "a")
	finds(t, "#b #a #b", names("b", "a", "b", "a"), "a b")
	finds(t, "#a #b #c", names("c", "b", "a"), "a b c")
	finds(t, "#aa #b #a0 #a #a.b #a- #0 #... #-", names("b", "-", "aa", "...", "a0", "0", "a-", "a", "a.b"), "- ... 0 a a- a.b a0 aa b")
	finds(t, "#a", slices.Repeat(names("a", "b"), 5000), "a")
}

// What is no name is never found, also where its bytes stand; the others are.
func TestFindWhatIsNoName(t *testing.T) {
	for _, s := range nones() {
		for _, text := range names("#"+s, "#"+s+" ", "##"+s+"#", s) {
			finds(t, text, names(s), "")
			finds(t, text+" #ok", names(s, "ok", s), "ok")
		}
	}
	finds(t, "#thirteenchars", names("thirteenchar", "thirteenchars"), "")
	finds(t, "#... #.a", names("...", ".a", ".", ".."), "... .a")
}

// A text has no bound, and neither have the names.
func TestFindInALongText(t *testing.T) {
	s := strings.Repeat("#b ", 50000)
	finds(t, s+"#a", names("a", "b", "c"), "a b")
	finds(t, strings.Repeat("#", 100000)+"a", names("a"), "a")
	finds(t, "#"+bytes(100000), names("x", bytes(api.MaxName)), "")
	var all []string
	text := ""
	for i := range 3000 {
		all = append(all, fmt.Sprintf("n%04d", i))
		text += "#" + all[i]
	}
	finds(t, text, all, strings.Join(all, " "))
}

func TestFindIsNewMemory(t *testing.T) {
	of := names("a", "b")
	a, b := scan.Find("#a #b", of), scan.Find("#a #b", of)
	a[0], a[1] = "spoilt", "spoilt"
	if !slices.Equal(b, names("a", "b")) || !slices.Equal(of, names("a", "b")) {
		t.Error("memory is shared:", b, of)
	}
	of[0] = "spoilt"
	if !slices.Equal(b, names("a", "b")) {
		t.Error("a later change shows:", b)
	}
}

// What lies behind a list's length is neither read nor written.
func TestFindEndsAtLength(t *testing.T) {
	of := names("b", "a", "c")
	finds(t, "#a #b #c", of[:1], "b")
	if got := append(scan.Find("#b #c", of[:1]), "z"); !slices.Equal(got, names("b", "z")) || !slices.Equal(of, names("b", "a", "c")) {
		t.Error("behind a list's length:", got, of)
	}
}
