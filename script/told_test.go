package script

import (
	"fmt"
	"testing"

	"stillroom/api"
)

// No line that a script may have gets a place told; whatever says it, it is no
// part of the text.
func TestToldWithoutAPlace(t *testing.T) {
	place := &api.Fault{At: 7, Err: api.ErrSum}
	for _, c := range []struct {
		answer string
		err    error
		want   string
	}{
		{"ok", nil, "ok"},
		{"", nil, ""},
		{"", api.ErrNone, "stillroom: none"},
		{"ok", api.ErrNone, "stillroom: none"},
		{"", place, "stillroom: sum"},
		{"", fmt.Errorf("record 7: %w", place), "stillroom: sum"},
	} {
		if got := told(c.answer, c.err); got != c.want {
			t.Errorf("%q, %v: %q, want %q", c.answer, c.err, got, c.want)
		}
	}
}
