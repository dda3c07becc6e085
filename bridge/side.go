package bridge

import (
	"tenement/api"
)

// side is a port: its credits, what waits for it, and its numbers (but Queued, which the queue tells).
type side struct {
	burst   int
	rate    int
	credit  int
	waiting queue[[]byte] // frames that nothing writes, so that ports share them
	counts  api.Counts
}

// grow adds the credits of a tick.
func (s *side) grow() { s.credit = min(s.credit+s.rate, s.burst) }

// bad counts a frame that can't be sent.
func (s *side) bad() {
	s.counts.Taken++
	s.counts.Malformed++
}

// direct lets a frame wait for the port, if there is room for it.
func (s *side) direct(frame []byte) {
	s.counts.Directed++
	if !s.waiting.put(frame) {
		s.counts.RingFull++
	}
}

// done lets the first frame go and counts what became of it, or tells that none waits.
func (s *side) done(delivered bool) api.Errno {
	if !s.waiting.drop() {
		return api.ErrNone
	}
	if delivered {
		s.counts.Delivered++
	} else {
		s.counts.NoBuffer++
	}
	return api.OK
}
