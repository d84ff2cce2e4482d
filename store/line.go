package store

import (
	"stillroom/api"
	"stillroom/words"
)

// command is what lines that begin with its word do.
type command struct {
	word    string
	args    int  // that many stand behind the word
	toEnd   bool // the last one goes to the line's end, whatever is in it
	changes bool
	do      func(k *stock, args []string) (string, error)
}

func commands() []command {
	return []command{
		{word: "add", args: 2, toEnd: true, changes: true, do: add},
		{word: "root", args: 1, changes: true, do: root},
		{word: "unroot", args: 1, changes: true, do: unroot},
		{word: "gc", changes: true, do: gc},
		{word: "opt", changes: true, do: once},
		{word: "rot", args: 2, changes: true, do: rot},
		{word: "mend", args: 2, toEnd: true, changes: true, do: mend},
		{word: "read", args: 2, do: read},
		{word: "list", do: list},
		{word: "roots", do: roots},
		{word: "refs", args: 1, do: refsOf},
		{word: "users", args: 1, do: users},
		{word: "need", args: 1, do: need},
		{word: "scan", do: rotten},
		{word: "free", do: free},
		{word: "saved", do: saved},
		{word: "where", args: 1, do: where},
	}
}

// parse a line.
func parse(line string) (task, error) {
	word := words.First(line)
	for _, c := range commands() {
		if c.word == word {
			return c.parse(line)
		}
	}
	return task{}, api.ErrText
}

// parse a line that begins with the command's word.
func (c command) parse(line string) (task, error) {
	split := words.Split
	if c.toEnd {
		split = words.SplitToEnd
	}
	l, err := split(line, c.args+1)
	if err != nil {
		return task{}, err
	}
	return task{c.changes, func(k *stock) (string, error) { return c.do(k, l[1:]) }}, nil
}
