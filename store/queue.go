package store

import (
	"tenement/api"
)

// queue is a domain's events that wait, each once.
type queue struct {
	events []api.Event
	waits  map[api.Event]struct{} // the same: a guest that never asks for its events must not make each further one slower
}

// add lets an event wait behind the others, unless it waits already.
func (q *queue) add(e api.Event) {
	if _, ok := q.waits[e]; ok {
		return
	}
	if q.waits == nil {
		q.waits = map[api.Event]struct{}{}
	}
	q.waits[e] = struct{}{}
	q.events = append(q.events, e)
}

// next tells the first event, which waits no more.
func (q *queue) next() (api.Event, api.Errno) {
	if len(q.events) == 0 {
		return api.Event{}, api.ErrNone
	}
	e := q.events[0]
	q.events = q.events[1:]
	delete(q.waits, e)
	return e, api.OK
}
