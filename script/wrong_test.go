package script_test

import (
	"strings"
	"testing"

	"stillroom/api"
)

// words of the commands that no store has, each with how many stand behind it.
func words() map[string]int {
	return map[string]int{"cut": 1, "again": 0, "diff": 2, "follow": 2, "files": 1, "size": 1}
}

func TestNoCommand(t *testing.T) {
	refuses(t, some(), textError,
		"", " ", "  ", "     ", "\n", "\t", "\x00", "\xff", "what", "what a", "what a b", "run", "do list", "tape", "packs", "tree a", "open", "power", "on",
		"Cut 1", "AGAIN", "list ", "gc ", "lists")
	for word := range words() {
		refuses(t, some(), textError, " "+word, " "+word+" a", strings.ToUpper(word)+" a", word+"s a", word[1:]+" a", word[:len(word)-1]+" a",
			word+"\n", word+"\ta", word+"\x00", word+",a")
	}
}

// Words too few, and too many.
func TestHowManyWords(t *testing.T) {
	for word, args := range words() {
		for count := range 6 {
			for _, arg := range []string{" a", " b", " 0", " /", " /f", " " + word, " q"} {
				if count != args {
					refuses(t, some(), textError, word+strings.Repeat(arg, count))
				}
			}
		}
	}
	refuses(t, some(), textError, "diff a b b", "follow a / /", "follow a /f f", "files a b", "size a a", "cut 0 0", "again a", "again again")
}

// Just one blank stands between two words, and none ahead of them or behind.
func TestBlanks(t *testing.T) {
	refuses(t, some(), textError,
		"cut  0", "cut 0 ", "cut 0  ", " cut 0", "cut  ", "again ", "again  ", " again", "diff  a b", "diff a  b", "diff a b ", "diff  ab  ",
		"follow  a /", "follow a  /", "follow a / ", "files  a", "files a ", "files  ", "size  a", "size a ", "size  ", " size a")
	// A blank with nothing behind it ends a word of no bytes, which is no pack's
	// name, no number, and no path.
	refuses(t, some(), noneError, "files ", "size ", "diff a ", "diff  a", "diff  ", "follow  /", "follow  ")
	refuses(t, some(), textError, "cut ")
	refuses(t, some(), nameError, "follow a ")
}

func TestNamesOfNoPack(t *testing.T) {
	for _, name := range []string{"q", "A", "aa", "a.", "ab", "/", ".", "..", "0", "nothing", "list", "#a", "a\n", "a,b", "\xff", strings.Repeat("a", api.MaxName+1)} {
		refuses(t, some(), noneError, "files "+name, "size "+name, "follow "+name+" /", "follow "+name+" q", "follow "+name+" /f",
			"diff a "+name, "diff "+name+" a", "diff "+name+" "+name, "diff "+name+" q")
	}
	// One that went is none.
	behind(t, some(), "files b", "/f /x", "gc", "1", "files b", noneError, "size b", noneError, "follow b /", noneError, "diff a b", noneError, "diff b b", noneError,
		"again", "ok", "files b", noneError, "add b f0:", "ok", "files b", "/")
}

// What is no such pack is told ahead of what can't be read, and both ahead of
// what is asked of the tree.
func TestErrorsInTheirOrder(t *testing.T) {
	rotten := append(some(), "rot 0 0")
	refuses(t, rotten, noneError, "diff a q", "diff q a", "diff q q", "diff a ", "follow q q")
	refuses(t, rotten, sumError, "diff a b", "diff b a", "diff a a", "follow a /", "follow a q", "follow a /q", "follow a ", "files a", "size a")
	refuses(t, rotten, textError, "diff a", "diff a q q", "follow a", "follow q", "files a q", "size q a", "cut a", "again q")
	refuses(t, append(rotten, "rot 1 0"), sumError, "diff a b", "diff b a", "files b")
}
