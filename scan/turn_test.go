package scan_test

import (
	"strings"
	"testing"

	"stillroom/api"
)

func TestTurn(t *testing.T) {
	turns(t, "see #a.b, #a", "a", "zz", "see #a.b, #zz")
	turns(t, "see #a.b, #a", "a.b", "c", "see #c, #a")
	turns(t, "#lib\n#lib #tool", "lib", "a-2.0", "#a-2.0\n#a-2.0 #tool")
	turns(t, "#a", "a", "abcdefghijkl", "#abcdefghijkl")
	turns(t, "#abcdefghijkl.", "abcdefghijkl", "a", "#abcdefghijkl.")
	turns(t, "#abcdefghijkl,", "abcdefghijkl", "a", "#a,")
}

func TestTurnAtTheEnds(t *testing.T) {
	turns(t, "#a", "a", "b", "#b")
	turns(t, "#a x", "a", "b", "#b x")
	turns(t, "x #a", "a", "b", "x #b")
	turns(t, "", "a", "b", "")
}

func TestTurnAheadOfAnyByte(t *testing.T) {
	for c := range 256 {
		behind := string([]byte{byte(c)})
		want := "\xff#zz" + behind + "\x00"
		if strings.Contains(nameBytes, behind) {
			want = "\xff#a" + behind + "\x00"
		}
		turns(t, "\xff#a"+behind+"\x00", "a", "zz", want)
	}
}

// What is none of the name's mentions stays to the byte.
func TestTurnLeavesTheRest(t *testing.T) {
	for _, s := range names("a", "a #", "#", "##", "# a", "#ab", "#a.", "#a-b", "#a.b", "#ba", "#A", "a#", "#b", "#\x00a", "é\xff#", "#aa#aaa", "#"+bytes(50)) {
		turns(t, s, "a", "zz", s)
	}
	turns(t, "a #a a #ab a", "a", "b", "a #b a #ab a")
}

func TestTurnInARow(t *testing.T) {
	turns(t, "#a#a#ab", "a", "b", "#b#b#ab")
	turns(t, "##a##", "a", "b", "##b##")
	turns(t, "#a#b#a", "a", "long", "#long#b#long")
	turns(t, "#long#long", "long", "a", "#a#a")
}

// What comes to stand there is not turned once more.
func TestTurnOnce(t *testing.T) {
	turns(t, "#a #aa", "a", "aa", "#aa #aa")
	turns(t, "#aa #a", "aa", "a", "#a #a")
	turns(t, "#a #a", "a", "a.a", "#a.a #a.a")
}

func TestTurnIntoItself(t *testing.T) {
	for _, s := range names("", "#a", "#a#a", "a #ab", "see #a, #b", "#", strings.Repeat("#a", api.MaxData/2)) {
		turns(t, s, "a", "a", s)
	}
	refuses(t, bytes(api.MaxData+1), "a", "a", api.ErrBound)
}

func TestTurnIntoWhatIsMentioned(t *testing.T) {
	turns(t, "#a #b", "a", "b", "#b #b")
	turns(t, "#b#a", "a", "b", "#b#b")
	turns(t, "#b", "a", "b", "#b")
}

func TestTurnAtTheBound(t *testing.T) {
	for _, c := range []struct{ from, to string }{{"a", "b"}, {"a", "bb"}, {"aa", "b"}, {"a", bytes(api.MaxName)}, {bytes(api.MaxName), "a"}} {
		rest := " " + bytes(api.MaxData-1-2*(1+len(c.to)))
		was, want := "#"+c.from+"#"+c.from+rest, "#"+c.to+"#"+c.to+rest
		if len(want) != api.MaxData {
			t.Fatal(len(want))
		}
		turns(t, was, c.from, c.to, want)
		turns(t, was[:len(was)-1], c.from, c.to, want[:len(want)-1])
		refuses(t, was+"x", c.from, c.to, api.ErrBound)
		refuses(t, "x"+was, c.from, c.to, api.ErrBound)
	}
	turns(t, strings.Repeat("#a", api.MaxData/2), "a", "b", strings.Repeat("#b", api.MaxData/2))
	refuses(t, strings.Repeat("#a", api.MaxData/2), "a", "bb", api.ErrBound)
}

// The bound holds for what comes out alone: also where nothing is turned.
func TestTurnBoundIsOfTheAnswer(t *testing.T) {
	turns(t, bytes(api.MaxData), "a", "b", bytes(api.MaxData))
	refuses(t, bytes(api.MaxData+1), "a", "b", api.ErrBound)
	long := strings.Repeat("#"+bytes(api.MaxName), api.MaxData/2)
	turns(t, long, bytes(api.MaxName), "a", strings.Repeat("#a", api.MaxData/2))
	refuses(t, long+"#", bytes(api.MaxName), "a", api.ErrBound)
	refuses(t, strings.Repeat("#a", 200000), "a", bytes(api.MaxName), api.ErrBound)
}

func TestTurnOfWhatIsNoName(t *testing.T) {
	for _, none := range nones() {
		for _, s := range names("", "#a", "#"+none, bytes(api.MaxData+1)) {
			refuses(t, s, none, "a", api.ErrName)
			refuses(t, s, "a", none, api.ErrName)
			refuses(t, s, none, none, api.ErrName)
			refuses(t, s, none, "..", api.ErrName)
		}
	}
}
