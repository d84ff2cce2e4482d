package side

import (
	"runtime"
	"slices"
	"strings"
	"sync"
	"sync/atomic"
	"testing"
	"time"

	"stillroom/api"
)

// These look at what goes on inside: for any task and any answer.

type pair struct{ a, b int }

func upTo(n int) []int {
	l := make([]int, n)
	for i := range l {
		l[i] = i
	}
	return l
}

func TestEachOfAnyKind(t *testing.T) {
	for w := 1; w <= 20; w++ {
		for _, count := range []int{0, 1, 2, 15, 16, 17, 100, 1000} {
			pairs := each(upTo(count), w, func(n int) pair { return pair{n, n * n} })
			for i, p := range pairs {
				if p != (pair{i, i * i}) {
					t.Fatalf("%d by %d: %v at %d", count, w, p, i)
				}
			}
			sums := each(pairs, w, func(p pair) *int { n := p.a + p.b; return &n })
			for i, p := range sums {
				if *p != i+i*i {
					t.Fatalf("%d by %d: %d at %d", count, w, *p, i)
				}
			}
			if len(pairs) != count || len(sums) != count {
				t.Fatalf("%d by %d: %d, %d", count, w, len(pairs), len(sums))
			}
		}
	}
	if l := each([]string{"a", "b"}, 2, strings.ToUpper); !slices.Equal(l, []string{"A", "B"}) {
		t.Errorf("%q", l)
	}
	if l := each[error, error](nil, 3, nil); len(l) != 0 {
		t.Error(l)
	}
}

// Each task is done, and once.
func TestEachOnce(t *testing.T) {
	for w := 1; w <= api.Workers; w++ {
		var times [100]atomic.Int32
		each(upTo(100), w, func(n int) int { return int(times[n].Add(1)) })
		for n := range times {
			if times[n].Load() != 1 {
				t.Errorf("by %d: %d is done %d times", w, n, times[n].Load())
			}
		}
	}
}

// The answers are in the tasks' order also where the tasks end from the last one
// to the first: each waits for the one behind it.
func TestEachInOrder(t *testing.T) {
	for w := 2; w <= api.Workers; w++ {
		ended := make([]chan int, w+1)
		for i := range ended {
			ended[i] = make(chan int)
		}
		close(ended[w])
		l := each(upTo(w), w, func(n int) int {
			<-ended[n+1]
			close(ended[n])
			return 10 * n
		})
		for i, n := range l {
			if n != 10*i {
				t.Errorf("by %d: %v", w, l)
			}
		}
	}
}

// That many are at work at the same time: each task waits until all the others
// are begun. And never more.
func TestEachSideBySide(t *testing.T) {
	for w := 1; w <= api.Workers; w++ {
		var begun sync.WaitGroup
		begun.Add(w)
		each(upTo(w), w, func(int) int {
			begun.Done()
			begun.Wait()
			return 0
		})
		var now, most atomic.Int32
		each(upTo(200), w, func(int) int {
			n := now.Add(1)
			for m := most.Load(); n > m && !most.CompareAndSwap(m, n); m = most.Load() {
			}
			runtime.Gosched()
			now.Add(-1)
			return 0
		})
		if int(most.Load()) > w {
			t.Errorf("%d at once, by %d", most.Load(), w)
		}
	}
}

// No worker is left, whatever was answered.
func TestNoWorkerIsLeft(t *testing.T) {
	was := runtime.NumGoroutine()
	good := make([]api.Node, 100)
	for i := range good {
		good[i] = api.Node{Kind: "file"}
	}
	for w := -1; w <= api.Workers+1; w++ {
		for _, count := range []int{0, 1, 3, 100, 101} {
			Texts(good[:min(count, 100)], w)
			Texts(make([]api.Node, count), w)
			Plays(make([][]string, min(count, 41)), count, w)
			Plays([][]string{make([]string, min(count, 81))}, 9, w)
		}
	}
	// One that was joined may need a moment more to be gone.
	for range 1000 {
		if runtime.NumGoroutine() <= was {
			return
		}
		time.Sleep(time.Millisecond)
	}
	t.Errorf("%d go on, %d did", runtime.NumGoroutine(), was)
}
