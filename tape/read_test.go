package tape_test

import (
	"slices"
	"strings"
	"testing"

	"stillroom/api"
	"stillroom/tape"
)

func TestRead(t *testing.T) {
	reads(t, "no bytes", "", 0)
	reads(t, "one of no bytes", "0:\n.", 4, "")
	reads(t, "one", "1:a\n.", 5, "a")
	reads(t, "two", "1:a\n.2:bc\n.", 11, "a", "bc")
	reads(t, "some of no bytes", "0:\n.0:\n.0:\n.", 12, "", "", "")
	reads(t, "a zero that is needed", "10:0123456789\n.", 15, "0123456789")
	reads(t, "one that looks like records", "12:1:a\n.2:bc\n.x\n.", 17, "1:a\n.2:bc\n.x")
	reads(t, "all of them", records(nasty()), len(records(nasty())), nasty()...)
	for _, s := range nasty() {
		reads(t, "one by itself", record(s), len(record(s)), s)
	}
}

func TestReadOfEachCount(t *testing.T) {
	for n := range 1100 {
		reads(t, "a count", record(bytes(n)), len(record(bytes(n))), bytes(n))
	}
}

func TestReadMaxText(t *testing.T) {
	met := bytes(api.MaxText)
	reads(t, "MaxText", record(met), len(record(met)), met)
	reads(t, "one more", record(met+"x"), 0)
	reads(t, "one more, behind another", "1:a\n."+record(met+"x")+"1:b\n.", 5, "a")
	reads(t, "far more", record(bytes(api.MaxBytes)), 0)
}

// A tape's bound is its own: Read takes what it is given.
func TestReadMoreThanATape(t *testing.T) {
	n := api.MaxBytes/len(record(bytes(api.MaxText))) + 2
	b := strings.Repeat(record(bytes(api.MaxText)), n)
	if l, size := tape.Read(b); len(l) != n || size != len(b) || len(b) <= api.MaxBytes {
		t.Error(len(l), size)
	}
}

func TestReadOfACutRecord(t *testing.T) {
	for _, s := range append(nasty(), bytes(1234)) {
		r := record(s)
		for n := range len(r) {
			reads(t, "cut alone", r[:n], 0)
			reads(t, "cut behind another", "1:a\n."+r[:n], 5, "a")
		}
	}
}

func none() []struct{ about, b string } {
	return []struct{ about, b string }{
		{"a zero ahead", "01:y\n."},
		{"two zeros", "00:\n."},
		{"zeros ahead of many digits", "0000000000000000000000001:y\n."},
		{"below 0", "-1:\n."},
		{"below 0, with a byte", "-1:y\n."},
		{"minus 0", "-0:\n."},
		{"a plus", "+1:y\n."},
		{"plus 0", "+0:\n."},
		{"a sign alone", "-:\n."},
		{"no digits", ":\n."},
		{"no digits, with a byte", ":y\n."},
		{"letters", "a:\n."},
		{"a base", "0x1:y\n."},
		{"an underscore", "1_0:0123456789\n."},
		{"a power", "1e0:y\n."},
		{"a point", "1.0:y\n."},
		{"a blank ahead", " 1:y\n."},
		{"a blank behind", "1 :y\n."},
		{"a line end ahead", "\n1:y\n."},
		{"digits that are none of ours", "\u0661:y\n."},
		{"the byte ahead of 0", "/:" + bytes(300) + "\n."},
		{"too large", "20001:" + bytes(20001) + "\n."},
		{"too large for its bytes", "2:y\n."},
		{"far too large", "999999999:y\n."},
		{"one that wraps round to 1", "18446744073709551617:y\n."},
		{"one that wraps round to 1 in 32 bits", "4294967297:y\n."},
		{"one that wraps round below 0", "9223372036854775808:\n."},
		{"digits without end", strings.Repeat("1", 50000)},
		{"digits without end, and a record", strings.Repeat("1", 50000) + ":y\n."},
		{"no colon", "1y\n."},
		{"another byte for the colon", "1;y\n."},
		{"too small", "1:yy\n."},
		{"too small by all", "0:y\n."},
		{"no line end", "1:y."},
		{"another byte for the line end", "1:y\r."},
		{"two bytes for the line end", "1:y\r\n."},
		{"two line ends", "1:y\n\n."},
		{"no dot", "1:y\n"},
		{"no dot, and another record", "1:y\n1:z\n."},
		{"another byte for the dot", "1:y\n,"},
		{"the dot ahead", "1:y.\n"},
		{"neither line end nor dot", "1:y"},
		{"neither of them, of no bytes", "0:"},
		{"no record at all", "abc"},
		{"a dot alone", "."},
		{"a colon alone", ":"},
		{"the end alone", "\n."},
	}
}

// What stands behind the first that is none is not read.
func TestReadOfWhatIsNone(t *testing.T) {
	for _, c := range none() {
		reads(t, c.about, c.b, 0)
		reads(t, c.about+", others behind", c.b+"1:b\n.0:\n.", 0)
		reads(t, c.about+", others ahead", "1:a\n.0:\n."+c.b, 9, "a", "")
		reads(t, c.about+", others on both sides", "1:a\n.0:\n."+c.b+"1:b\n.", 9, "a", "")
	}
}

func TestReadOfTwoTapes(t *testing.T) {
	a, b := newDisk(t, ""), newDisk(t, "")
	appends(t, a, "1", "", "2:")
	appends(t, b, "\n.", "4")
	reads(t, "two tapes", a.Bytes()+b.Bytes(), len(a.Bytes())+len(b.Bytes()), "1", "", "2:", "\n.", "4")
	reads(t, "two tapes, the other way round", b.Bytes()+a.Bytes(), len(a.Bytes())+len(b.Bytes()), "\n.", "4", "1", "", "2:")
	cut(t, a, 4)
	refuses(t, a, "5", api.ErrOff)
	reads(t, "the first one cut", a.Bytes()+b.Bytes(), len("1:1\n.0:\n.2:2:\n."), "1", "", "2:")
	d := newDisk(t, records(texts("1", "2"))+b.Bytes())
	recovers(t, d, "1", "2", "\n.", "4")
}

func TestReadAnswersItsOwnList(t *testing.T) {
	b := records(texts("a", "b"))
	l, _ := tape.Read(b)
	l[0] = "z"
	reads(t, "again", b, len(b), "a", "b")
	d := newDisk(t, b)
	l, err := tape.Recover(d)
	if err != nil || !slices.Equal(l, texts("a", "b")) {
		t.Fatal(l, err)
	}
	l[0] = "z"
	recovers(t, d, "a", "b")
}

func TestRecover(t *testing.T) {
	recovers(t, newDisk(t, ""))
	recovers(t, newDisk(t, "0:\n."), "")
	recovers(t, newDisk(t, records(nasty())), nasty()...)
	for _, c := range none() {
		recovers(t, newDisk(t, c.b))
		recovers(t, newDisk(t, "1:a\n.0:\n."+c.b), "a", "")
		recovers(t, newDisk(t, "1:a\n.0:\n."+c.b+"1:b\n."), "a", "")
	}
}

func TestRecoverTwice(t *testing.T) {
	d := newDisk(t, "1:a\n.1:b\n1:c\n.")
	recovers(t, d, "a")
	recovers(t, d, "a")
}

func TestRecoverWithACutThatWaits(t *testing.T) {
	d := newDisk(t, "1:a\n.")
	cut(t, d, 0)
	recovers(t, d, "a")
	appends(t, d, "b")
	holds(t, d, true, "1:a\n.1:b\n.")
}

func TestAppendBehindRecover(t *testing.T) {
	d := newDisk(t, "1:a\n.12:lon")
	recovers(t, d, "a")
	appends(t, d, "b")
	recovers(t, d, "a", "b")
	cut(t, d, 9)
	appends(t, d, "c")
	refuses(t, d, "12", api.ErrOff)
	recovers(t, d, "a", "b", "c")
	appends(t, d, "", "d")
	recovers(t, d, "a", "b", "c", "", "d")
}

// Bytes that go make room.
func TestRecoverMakesRoom(t *testing.T) {
	d := newDisk(t, "1:a\n."+bytes(api.MaxBytes-5))
	refuses(t, d, "", api.ErrFull)
	recovers(t, d, "a")
	appends(t, d, "b", bytes(api.MaxText))
	recovers(t, d, "a", "b", bytes(api.MaxText))
}
