package pack_test

import (
	"strings"
	"testing"

	"stillroom/api"
	"stillroom/pack"
	"stillroom/tree"
)

type wrong struct {
	about, s string
	want     error
}

func readFails(t *testing.T, c wrong) {
	t.Helper()
	n, err := pack.Read(c.s)
	// The very error: no place is told here, so it is bare.
	if err != c.want {
		t.Errorf("Read of %s: %v, want %v", c.about, err, c.want)
	}
	if !tree.Same(n, api.Node{}) {
		t.Errorf("Read of %s: a node with its error", c.about)
	}
}

func firstFails(t *testing.T, c wrong) {
	t.Helper()
	n, rest, err := pack.First(c.s)
	if err != c.want {
		t.Errorf("First of %s: %v, want %v", c.about, err, c.want)
	}
	if !tree.Same(n, api.Node{}) || rest != "" {
		t.Errorf("First of %s: a node or a rest %.20q with its error", c.about, rest)
	}
}

func bothFail(t *testing.T, l []wrong) {
	t.Helper()
	for _, c := range l {
		readFails(t, c)
		firstFails(t, c)
	}
}

func reads(t *testing.T, about, s string) {
	t.Helper()
	if n, err := pack.Read(s); err != nil || pack.Text(n) != s {
		t.Errorf("Read of %s: %v", about, err)
	}
	if n, rest, err := pack.First(s); err != nil || pack.Text(n) != s || rest != "" {
		t.Errorf("First of %s: %v", about, err)
	}
}

func TestRead(t *testing.T) {
	for _, c := range texts() {
		if n, err := pack.Read(c.s); err != nil || !tree.Same(n, c.n) {
			t.Errorf("%.40q: %v", c.s, err)
		}
		if n, rest, err := pack.First(c.s); err != nil || !tree.Same(n, c.n) || rest != "" {
			t.Errorf("%.40q: %.40q, %v", c.s, rest, err)
		}
	}
}

func TestFirstTellsWhatIsBehind(t *testing.T) {
	for _, c := range texts() {
		for _, behind := range []string{"f1:y", "z", ":", "0", "\x00", "d", " ", "l0:", "d2:1:bf0:1:af0:", dirs(20)} {
			if len(c.s)+len(behind) > api.MaxText {
				continue
			}
			n, rest, err := pack.First(c.s + behind)
			if err != nil || !tree.Same(n, c.n) || rest != behind {
				t.Errorf("%.40q: rest %.40q, %v", c.s+behind, rest, err)
			}
			readFails(t, wrong{"something behind", c.s + behind, api.ErrText})
		}
	}
}

func TestFirstByFirst(t *testing.T) {
	rest := ""
	l := texts()[:18]
	for _, c := range l {
		rest += c.s
	}
	for i, c := range l {
		n, r, err := pack.First(rest)
		if err != nil || !tree.Same(n, c.n) {
			t.Fatal(i, err)
		}
		rest = r
	}
	if rest != "" {
		t.Errorf("left: %.40q", rest)
	}
}

func TestReadCut(t *testing.T) {
	for _, c := range texts() {
		for cut := range min(len(c.s), 200) {
			bothFail(t, []wrong{{"a cut text", c.s[:cut], api.ErrText}, {"a cut end", c.s[:len(c.s)-1-cut], api.ErrText}})
		}
	}
}

func TestReadNoText(t *testing.T) {
	bothFail(t, []wrong{
		{"nothing", "", api.ErrText},
		{"another letter", "z1:a", api.ErrText},
		{"a capital", "F1:a", api.ErrText},
		{"a space ahead", " f1:a", api.ErrText},
		{"a number ahead", "1:af0:", api.ErrText},
		{"a letter alone", "f", api.ErrText},
		{"no number", "f:", api.ErrText},
		{"no number of kids", "d:", api.ErrText},
		{"no colon", "f1a", api.ErrText},
		{"another byte for the colon", "f1;a", api.ErrText},
		{"a space ahead of a number", "f 1:a", api.ErrText},
		{"a space behind a number", "f1 :a", api.ErrText},
		{"a sign", "f+1:a", api.ErrText},
		{"below 0", "f-1:", api.ErrText},
		{"below 0, kids", "d-1:", api.ErrText},
		{"letters in a number", "f0x1:a", api.ErrText},
		{"an underscore", "f1_0:" + bytes(10), api.ErrText},
		{"a digit that is none of ours", "f\u0661:a", api.ErrText},
		{"the byte behind 9", "f::a", api.ErrText},
		{"the byte ahead of 0", "f/:a", api.ErrText},
		{"the byte ahead of 0, as a digit", "f1/:" + bytes(265), api.ErrText},
		{"too few bytes", "f2:a", api.ErrText},
		{"too few bytes of a link", "l2:a", api.ErrText},
		{"too few kids", "d2:1:af0:", api.ErrText},
		{"a name alone", "d1:1:a", api.ErrText},
		{"a name that is cut", "d1:2:a", api.ErrText},
		{"a name without a number", "d1:af0:", api.ErrText},
		{"a kid's letter", "d1:1:az0:", api.ErrText},
		{"a kid's number", "d1:1:af:", api.ErrText},
		{"far more than there is", "f999999:a", api.ErrText},
		{"far more kids than there are", "d999999:", api.ErrText},
		{"a far longer name than there is", "d1:999999:af0:", api.ErrText},
	})
}

func TestReadZeros(t *testing.T) {
	reads(t, "0 of a file", "f0:")
	reads(t, "0 of a dir", "d0:")
	reads(t, "a zero that is needed", "f10:"+bytes(10))
	bothFail(t, []wrong{
		{"00 of a file", "f00:", api.ErrText},
		{"00 of a link", "l00:", api.ErrText},
		{"00 of a dir", "d00:", api.ErrText},
		{"01", "f01:a", api.ErrText},
		{"01 of what runs", "x01:a", api.ErrText},
		{"01 of a link", "l01:a", api.ErrText},
		{"01 of a dir", "d01:1:af0:", api.ErrText},
		{"01 of a name", "d1:01:af0:", api.ErrText},
		{"000000", "f000000:", api.ErrText},
		{"010", "f010:" + bytes(10), api.ErrText},
		{"0200 ahead of too many nodes", "d0200:" + kids(200), api.ErrText},
	})
}

// A number of six digits is one, so that it's the nodes behind it that are too many; one of seven is none.
func TestReadDigits(t *testing.T) {
	bothFail(t, []wrong{
		{"six digits", "d100000:" + kids(api.MaxNodes), api.ErrFull},
		{"six nines", "d999999:" + kids(api.MaxNodes), api.ErrFull},
		{"seven digits", "d1000000:" + kids(api.MaxNodes), api.ErrText},
		{"seven digits, zeros ahead", "d0000200:" + kids(api.MaxNodes), api.ErrText},
		{"seven digits of a file", "f1234567:", api.ErrText},
		{"seven digits of a name", "d1:1234567:a", api.ErrText},
		{"digits that wrap round", "f18446744073709551617:a", api.ErrText},
		{"digits that wrap round to kids", "d18446744073709551816:" + kids(api.MaxNodes), api.ErrText},
		{"digits without end", "f" + strings.Repeat("1", 5000), api.ErrText},
	})
}

func TestReadMaxText(t *testing.T) {
	met, s := fits(api.MaxText)
	if n, err := pack.Read(s); err != nil || !tree.Same(n, met) {
		t.Error("MaxText met:", err)
	}
	_, past := fits(api.MaxText + 1)
	behind := "f1:a" + bytes(api.MaxText-4)
	if n, rest, err := pack.First(behind); err != nil || !tree.Same(n, file("a")) || rest != behind[4:] {
		t.Error("MaxText met by what is behind:", err)
	}
	bothFail(t, []wrong{
		{"MaxText past", past, api.ErrBound},
		{"MaxText past by what is behind", behind + "x", api.ErrBound},
		{"MaxText met by no text", bytes(api.MaxText), api.ErrText},
		{"MaxText past by no text", bytes(api.MaxText + 1), api.ErrBound},
		{"MaxText past, too deep", dirs(api.MaxText), api.ErrBound},
		{"MaxText past, too many", "d999999:" + kids(3000), api.ErrBound},
	})
}

func TestReadDeep(t *testing.T) {
	reads(t, "MaxDeep met by a dir", dirs(api.MaxDeep)+"d0:")
	reads(t, "MaxDeep met by a file", dirs(api.MaxDeep)+"f1:x")
	bothFail(t, []wrong{
		{"MaxDeep past", dirs(api.MaxDeep+1) + "d0:", api.ErrDeep},
		{"MaxDeep past by a file", dirs(api.MaxDeep+1) + "f0:", api.ErrDeep},
		{"MaxDeep past, cut as it begins", dirs(api.MaxDeep + 1), api.ErrDeep},
		{"MaxDeep past by what is none", dirs(api.MaxDeep+1) + "z", api.ErrDeep},
		{"MaxDeep past, cut in the name ahead", dirs(api.MaxDeep) + "d1:1:", api.ErrText},
		{"MaxDeep past, cut in a longer name", dirs(api.MaxDeep) + "d1:2:d", api.ErrText},
		{"MaxDeep past, cut behind the kids' number", dirs(api.MaxDeep) + "d1:", api.ErrText},
		{"MaxDeep met, cut as it begins", dirs(api.MaxDeep), api.ErrText},
		{"MaxDeep met, by what is none", dirs(api.MaxDeep) + "z0:", api.ErrText},
		{"far past", dirs(3000), api.ErrDeep},
		{"past in the second kid", "d2:1:af0:1:b" + dirs(api.MaxDeep) + "f0:", api.ErrDeep},
	})
}

func TestReadFull(t *testing.T) {
	met := "d199:" + kids(api.MaxNodes-1)
	reads(t, "MaxNodes met", met)
	over := "d188:" + kids(187) + "1:z"
	reads(t, "MaxNodes met over dirs", over+"d11:"+kids(11))
	bothFail(t, []wrong{
		{"MaxNodes past", "d200:" + kids(api.MaxNodes), api.ErrFull},
		{"MaxNodes past over dirs", over + "d12:" + kids(12), api.ErrFull},
		{"MaxNodes past, cut as it begins", "d200:" + kids(199) + "1:z", api.ErrFull},
		{"MaxNodes past by what is none", "d200:" + kids(199) + "1:zz", api.ErrFull},
		{"MaxNodes past, cut in the name ahead", "d200:" + kids(199) + "1:", api.ErrText},
		{"MaxNodes past, cut ahead of the name", "d200:" + kids(199), api.ErrText},
		{"MaxNodes met, cut as the last begins", "d199:" + kids(198) + "1:z", api.ErrText},
		{"MaxNodes met by what is none", "d199:" + kids(198) + "1:zz", api.ErrText},
	})
	if n, rest, err := pack.First(met + met); err != nil || pack.Text(n) != met || rest != met {
		t.Error("nodes behind the first tree count:", err)
	}
}

func TestReadCheck(t *testing.T) {
	bothFail(t, []wrong{
		{"a link of nothing", "l0:", api.ErrBound},
		{"a long link", "l41:" + bytes(41), api.ErrBound},
		{"a link's bytes", "l3:a b", api.ErrText},
		{"a link's other bytes", "l1:\x7f", api.ErrText},
		{"long data", "f2001:" + bytes(2001), api.ErrBound},
		{"long data that runs", "x2001:" + bytes(2001), api.ErrBound},
		{"no name", "d1:0:f0:", api.ErrName},
		{"a long name", "d1:13:" + bytes(13) + "f0:", api.ErrName},
		{"a capital", "d1:1:Af0:", api.ErrName},
		{"a dot", "d1:1:.f0:", api.ErrName},
		{"two dots", "d1:2:..f0:", api.ErrName},
		{"names that fall", "d2:1:bf0:1:af0:", api.ErrOrder},
		{"a name twice", "d2:1:af0:1:af0:", api.ErrOrder},
		{"a kid's", "d1:1:ad1:1:bl0:", api.ErrBound},
		{"a dir's names ahead of its kids", "d2:1:al0:1:Bf0:", api.ErrName},
		{"a dir's order ahead of its kids", "d2:1:bl0:1:af0:", api.ErrOrder},
		{"a name ahead of order", "d3:1:bf0:1:af0:1:Af0:", api.ErrName},
		{"the first kid ahead of the second", "d2:1:al0:1:bd1:0:f0:", api.ErrBound},
		{"order with MaxNodes met", "d199:" + strings.Repeat("1:af0:", 199), api.ErrOrder},
	})
}

// Where several are so: no text ahead of what its nodes are, wherever that stands; too deep or too many as soon as it begins.
func TestReadFirstError(t *testing.T) {
	bothFail(t, []wrong{
		{"cut behind a bad name", "d2:1:Af0:1:b", api.ErrText},
		{"cut behind names that fall", "d3:1:bf0:1:af0:", api.ErrText},
		{"cut behind a link of nothing", "d2:1:al0:1:bf1:", api.ErrText},
		{"cut behind long data", "d2:1:af2001:" + bytes(2001), api.ErrText},
		{"no number behind a long name", "d1:13:" + bytes(13) + "f:", api.ErrText},
		{"too deep ahead of a bad name", "d1:1:A" + dirs(api.MaxDeep) + "f0:", api.ErrDeep},
		{"too deep ahead of a link of nothing ahead", "d2:1:al0:1:b" + dirs(api.MaxDeep) + "f0:", api.ErrDeep},
		{"too deep ahead of names that fall", "d2:1:bf0:1:a" + dirs(api.MaxDeep) + "f0:", api.ErrDeep},
		{"too many ahead of names that fall", "d200:" + strings.Repeat("1:af0:", 200), api.ErrFull},
		{"too many ahead of bad names", "d200:" + strings.Repeat("0:f0:", 200), api.ErrFull},
		{"too many ahead of links of nothing", "d200:" + strings.Repeat("1:al0:", 200), api.ErrFull},
		{"no text ahead of too deep", "d2:1:az0:1:b" + dirs(api.MaxDeep) + "f0:", api.ErrText},
		{"too deep ahead of no text", "d2:1:a" + dirs(api.MaxDeep) + "f0:1:bz0:", api.ErrDeep},
		{"no text ahead of too many", "d200:1:az" + kids(199), api.ErrText},
		{"too many ahead of no text", "d202:" + kids(200) + "1:zz", api.ErrFull},
		{"too deep ahead of too many", "d300:1:a" + dirs(api.MaxDeep) + "f0:" + kids(299), api.ErrDeep},
		{"too many ahead of too deep", "d300:" + kids(200) + "1:z" + dirs(api.MaxDeep), api.ErrFull},
		{"too deep and too many at once", "d192:" + kids(191) + "1:z" + dirs(api.MaxDeep), api.ErrDeep},
	})
}

// What is behind the first tree is no text to Read, whatever that tree's nodes are; to First it is only behind.
func TestReadBehindWhatIsNotWell(t *testing.T) {
	for _, c := range []wrong{
		{"a link of nothing", "l0:z", api.ErrBound},
		{"long data", "f2001:" + bytes(2001) + "f0:", api.ErrBound},
		{"a bad name", "d1:1:Af0::", api.ErrName},
		{"names that fall", "d2:1:bf0:1:af0:f0:", api.ErrOrder},
	} {
		readFails(t, wrong{c.about + " with something behind", c.s, api.ErrText})
		firstFails(t, c)
	}
}

func TestReadGivesNewMemory(t *testing.T) {
	_, s := sample()
	a, _ := pack.Read(s)
	b, _, _ := pack.First(s)
	a.Kids[0].Name = "z"
	a.Kids[2].Node.Kids[0] = kid("z", link("z"))
	if c, err := pack.Read(s); err != nil || pack.Text(b) != s || pack.Text(c) != s {
		t.Error("what is written into one answer shows in another")
	}
}
