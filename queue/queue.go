// Package queue has what waits for its turn. Those who go on step by step share it: what comes next begins when what comes ahead of it has ended, steps later.
package queue

import "slices"

// Queue is what waits, in order.
type Queue[T any] struct{ waiting []T }

// Of tells a queue in which all of l wait.
func Of[T any](l []T) *Queue[T] {
	return &Queue[T]{waiting: slices.Clone(l)}
}

// Each does do with all that wait, one behind the other, each as soon as next is called for the one ahead of it, and done behind the last one.
func (q *Queue[T]) Each(do func(x T, next func()), done func()) {
	if len(q.waiting) == 0 {
		done()
		return
	}
	first := q.waiting[0]
	q.waiting = q.waiting[1:]
	do(first, func() { q.Each(do, done) })
}
