package store

import (
	"strconv"
	"strings"
)

// These are answers as texts. An error that comes along goes on as it is: then
// nobody sees the answer.

// done is the answer of what has no other one.
func done(err error) (string, error) { return "ok", err }

func counted(n int, err error) (string, error) { return strconv.Itoa(n), err }

func listed(l []string, err error) (string, error) {
	if len(l) == 0 {
		return "nothing", err
	}
	return strings.Join(l, blank), err
}
