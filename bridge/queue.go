package bridge

import (
	"slices"

	"tenement/api"
)

// queue is what waits, the one that came first ahead. It has room for few.
type queue[T any] struct {
	items []T
}

func (q *queue[T]) size() int { return len(q.items) }

// put lets one wait last, if there is room for it.
func (q *queue[T]) put(item T) bool {
	if len(q.items) >= api.MaxQueue {
		return false
	}
	q.items = append(q.items, item)
	return true
}

// first is the one that came first, if one waits.
func (q *queue[T]) first() (T, bool) {
	if len(q.items) == 0 {
		var none T
		return none, false
	}
	return q.items[0], true
}

// drop lets the one that came first go, if one waits.
func (q *queue[T]) drop() bool {
	if len(q.items) == 0 {
		return false
	}
	q.items = slices.Delete(q.items, 0, 1)
	return true
}
