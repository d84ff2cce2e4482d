// Package words: the words that lines are made of, and those that answer them.
package words

import (
	"strconv"
	"strings"

	"stillroom/api"
)

// blank stands between the words of a line, and of a list.
const blank = " "

// maxNumber has as many digits as a line's number may have.
const maxNumber = 999999

// First word of a line: up to the first blank, or to its end.
func First(line string) string {
	word, _, _ := strings.Cut(line, blank)
	return word
}

// Split a line into that many words, at least one. Each blank ends a word, which
// may have no bytes.
func Split(line string, count int) ([]string, error) {
	// One more than there may be, so that it is told.
	return just(count, strings.SplitN(line, blank, count+1))
}

// SplitToEnd is Split, but that the last word goes to the line's end, whatever is
// in it.
func SplitToEnd(line string, count int) ([]string, error) {
	return just(count, strings.SplitN(line, blank, count))
}

func just(count int, words []string) ([]string, error) {
	if len(words) != count {
		return nil, api.ErrText
	}
	return words, nil
}

// Numbers that words are. Each is held against its own writing, since a sign or a
// needless zero is read as well.
func Numbers(words ...string) ([]int, error) {
	var l []int
	for _, word := range words {
		n, err := strconv.Atoi(word)
		if err != nil || n < 0 || n > maxNumber || strconv.Itoa(n) != word {
			return nil, api.ErrText
		}
		l = append(l, n)
	}
	return l, nil
}
