package words

import (
	"strconv"
	"strings"
)

// These are answers as texts. An error that comes along goes on as it is: then
// nobody sees the answer.

// Done is the answer of what has no other one.
func Done(err error) (string, error) { return "ok", err }

// Number answered.
func Number(n int, err error) (string, error) { return strconv.Itoa(n), err }

// List answered.
func List(l []string, err error) (string, error) {
	if len(l) == 0 {
		return "nothing", err
	}
	return strings.Join(l, blank), err
}
