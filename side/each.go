package side

import "sync"

// made is what was made of the task with that number.
type made[A any] struct {
	number int
	answer A
}

// each does all tasks by so many workers, at least one, side by side. The answers
// stand in the order of the tasks, whichever was done first.
func each[T, A any](tasks []T, workers int, do func(T) A) []A {
	numbers, answers := make(chan int), make(chan made[A])
	var joined sync.WaitGroup
	// A worker more than there are tasks would find nothing to do.
	for range min(workers, len(tasks)) {
		joined.Add(1)
		go func() {
			defer joined.Done()
			work(tasks, do, numbers, answers)
		}()
	}
	l := gather(len(tasks), numbers, answers)
	joined.Wait()
	return l
}

// work takes numbers of tasks until there are none left.
func work[T, A any](tasks []T, do func(T) A, numbers <-chan int, answers chan<- made[A]) {
	for n := range numbers {
		answers <- made[A]{n, do(tasks[n])}
	}
}

// gather gives out the numbers below count, and takes in what is made of them.
// Both in one select: a worker that has something to send takes no number, so
// that who only gave out might wait for ever.
func gather[A any](count int, numbers chan<- int, answers <-chan made[A]) []A {
	l := make([]A, count)
	next, out := 0, numbers
	for left := count; left > 0; {
		if next == count {
			out = nil // nothing is ever sent on it: only answers are left
		}
		select {
		case out <- next:
			next++
		case m := <-answers:
			l[m.number] = m.answer
			left--
		}
	}
	close(numbers)
	return l
}
