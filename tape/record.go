package tape

import (
	"strconv"
	"strings"

	"stillroom/api"
)

// What stands behind a record's number, and behind its text.
const (
	colon = ":"
	end   = "\n."
)

// Append a record.
func Append(d *Disk, s string) error {
	if d == nil {
		return api.ErrShape
	}
	return d.record(len(d.bytes), s)
}

// Resume is Append, but for what power that failed left of a record: where power
// is there again, that goes, as Recover would have it, and nothing else does: a
// Cut waits on. So who goes on behind On alone is read too.
func Resume(d *Disk, s string) error {
	if !d.Power() {
		return Append(d, s)
	}
	return d.record(len(d.bytes)-d.torn, s)
}

// record is written at a place; what stands from there on goes, unless there is
// an error ahead of the first byte.
func (d *Disk) record(at int, s string) error {
	if len(s) > api.MaxText {
		return api.ErrBound
	}
	b := strconv.Itoa(len(s)) + colon + s + end
	// Ahead of the power: what has no room is not begun.
	if at+len(b) > api.MaxBytes {
		return api.ErrFull
	}
	if at < len(d.bytes) {
		d.keep(at)
	}
	return d.write(b)
}

// Read records.
func Read(b string) ([]string, int) {
	var texts []string
	rest := b
	for {
		text, behind, is := first(rest)
		if !is {
			return texts, len(b) - len(rest)
		}
		texts, rest = append(texts, text), behind
	}
}

// Recover a tape.
func Recover(d *Disk) ([]string, error) {
	if d == nil {
		return nil, api.ErrShape
	}
	d.On()
	texts, n := Read(d.Bytes())
	d.keep(n)
	return texts, nil
}

// first is the text of the record with which bytes begin, and what is behind the
// record.
func first(b string) (text, behind string, is bool) {
	number, rest, is := strings.Cut(b, colon)
	if !is {
		return "", "", false
	}
	n, is := count(number)
	if !is || n > len(rest) {
		return "", "", false
	}
	behind, is = strings.CutPrefix(rest[n:], end)
	return rest[:n], behind, is
}

// count of a text's bytes, told by a record. It is held against its own writing,
// since a sign or a needless zero is read as well, but never written.
func count(number string) (int, bool) {
	n, err := strconv.Atoi(number)
	if err != nil || n < 0 || n > api.MaxText {
		return 0, false
	}
	return n, strconv.Itoa(n) == number
}
