package store

import (
	"errors"

	"stillroom/api"
)

// task is what a line asks for.
type task struct {
	changes bool
	do      func(k *stock) (string, error)
}

// on a stock: the task's answer, or its error alone. With an error a task that
// changes may have done a part of it: nobody needs that stock any more.
func (t task) on(k *stock) (string, error) {
	answer, err := t.do(k)
	if err != nil {
		return "", bare(err)
	}
	return answer, nil
}

// again does a line of the tape.
func (k *stock) again(line string) error {
	t, err := parse(line)
	if err != nil {
		return err
	}
	_, err = t.on(k)
	return err
}

// bare is an error without its place: places are those of lists that who wrote
// the line never saw.
func bare(err error) error {
	var f *api.Fault
	if errors.As(err, &f) {
		return f.Err
	}
	return err
}
