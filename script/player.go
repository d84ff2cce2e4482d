package script

import (
	"stillroom/store"
	"stillroom/words"
)

// player of lines. What the store does, it does too.
type player struct {
	*store.Store
	own map[string]command // by their first words
}

// command that no store has.
type command struct {
	args int // that many words stand behind the first one
	do   func(p *player, args []string) (string, error)
}

// play a line. What begins with no word of the player's own is the store's.
func (p *player) play(line string) (string, error) {
	c, is := p.own[words.First(line)]
	if !is {
		return p.Do(line)
	}
	l, err := words.Split(line, c.args+1)
	if err != nil {
		return "", err
	}
	return c.do(p, l[1:])
}
