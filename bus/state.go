package bus

import (
	"strconv"

	"tenement/api"
)

// State tells the state that a node's value is.
func State(value []byte) int {
	if len(value) != 1 {
		return api.BUnknown
	}
	state := int(value[0]) - '0'
	if state < api.BInit || state > api.BClosed {
		return api.BUnknown
	}
	return state
}

// valueOf is a state as a node's value.
func valueOf(state int) []byte { return []byte(strconv.Itoa(state)) }

// states is a set of states: of each the bit of its number.
type states uint8

const (
	unknown  states = 1 << api.BUnknown
	initial  states = 1 << api.BInit
	waiting  states = 1 << api.BWait
	ready    states = 1 << api.BReady
	open     states = 1 << api.BOpen
	closing  states = 1 << api.BClosing
	closed   states = 1 << api.BClosed
	anyState        = unknown | initial | waiting | ready | open | closing | closed
)

func (s states) has(state int) bool {
	return api.BUnknown <= state && state <= api.BClosed && s>>state&1 == 1
}

// Allowed tells whether an end may go from one state to another, the other end being in the third.
func Allowed(from int, to int, other int) bool {
	moves := [...]struct {
		from  states
		to    int
		other states
	}{
		{unknown | closed, api.BInit, unknown | initial | waiting | closed},
		{initial, api.BWait, unknown | initial | waiting | ready},
		{initial, api.BReady, waiting},
		{waiting, api.BReady, waiting | ready},
		{waiting | ready, api.BOpen, ready | open},
		{initial | waiting | ready | open, api.BClosing, anyState},
		{closing, api.BClosed, unknown | closing | closed},
	}
	for _, m := range moves {
		if m.from.has(from) && m.to == to && m.other.has(other) {
			return true
		}
	}
	return false
}

// Next tells where a back end goes, which is where it is, if nothing is to be done.
func Next(own int, other int) int {
	leave := api.BClosed
	switch own {
	case api.BInit:
		return api.BWait
	case api.BWait:
		if (ready | open).has(other) {
			return api.BOpen
		}
	case api.BReady, api.BOpen:
		// An end leaves in two steps, and for both the front must have left too.
		leave = api.BClosing
		fallthrough
	case api.BClosing:
		if (closing | closed | unknown).has(other) {
			return leave
		}
	case api.BClosed, api.BUnknown:
		if other == api.BInit {
			return api.BInit
		}
	}
	return own
}
