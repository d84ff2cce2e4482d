package store

import (
	"strconv"
	"strings"

	"stillroom/api"
)

// blank stands between the words of a line, and of a list.
const blank = " "

// maxNumber has as many digits as a line's number may have.
const maxNumber = 999999

// command is what lines that begin with its word do.
type command struct {
	word    string
	args    int  // that many stand behind the word
	toEnd   bool // the last one goes to the line's end, whatever is in it
	changes bool
	do      func(k *stock, args []string) (string, error)
}

func commands() []command {
	return []command{
		{word: "add", args: 2, toEnd: true, changes: true, do: add},
		{word: "root", args: 1, changes: true, do: root},
		{word: "unroot", args: 1, changes: true, do: unroot},
		{word: "gc", changes: true, do: gc},
		{word: "opt", changes: true, do: once},
		{word: "rot", args: 2, changes: true, do: rot},
		{word: "mend", args: 2, toEnd: true, changes: true, do: mend},
		{word: "read", args: 2, do: read},
		{word: "list", do: list},
		{word: "roots", do: roots},
		{word: "refs", args: 1, do: refsOf},
		{word: "users", args: 1, do: users},
		{word: "need", args: 1, do: need},
		{word: "scan", do: rotten},
		{word: "free", do: free},
		{word: "saved", do: saved},
		{word: "where", args: 1, do: where},
	}
}

// parse a line.
func parse(line string) (task, error) {
	word, _, _ := strings.Cut(line, blank)
	for _, c := range commands() {
		if c.word == word {
			return c.parse(line)
		}
	}
	return task{}, api.ErrText
}

// parse a line that begins with the command's word.
func (c command) parse(line string) (task, error) {
	most := c.args + 2 // one more than there may be, so that it is told
	if c.toEnd {
		most = c.args + 1
	}
	words := strings.SplitN(line, blank, most)
	if len(words) != c.args+1 {
		return task{}, api.ErrText
	}
	return task{c.changes, func(k *stock) (string, error) { return c.do(k, words[1:]) }}, nil
}

// numbers that arguments are. Each is held against its own writing, since a sign
// or a needless zero is read as well.
func numbers(args ...string) ([]int, error) {
	var l []int
	for _, arg := range args {
		n, err := strconv.Atoi(arg)
		if err != nil || n < 0 || n > maxNumber || strconv.Itoa(n) != arg {
			return nil, api.ErrText
		}
		l = append(l, n)
	}
	return l, nil
}
