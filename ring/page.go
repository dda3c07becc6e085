package ring

import (
	"tenement/api"
)

const (
	wordBytes     = 2
	requestBytes  = 16
	responseBytes = 8
)

// Places in a ring's page of the two ends' numbers.
const (
	indexAt = iota * wordBytes // how many requests the front has laid
	laidAt                     // how many responses the back has laid
)

// Places in a ring's page of the first slot of each kind; the responses stand behind all the requests.
const (
	requestsAt = 16 + iota*api.RingSlots*requestBytes
	responsesAt
)

type requestSlot [requestBytes]byte

func (requestSlot) first() int { return requestsAt }

type responseSlot [responseBytes]byte

func (responseSlot) first() int { return responsesAt }

// slot is one of the two kinds of slots.
type slot interface {
	requestSlot | responseSlot
	first() int
}

// place is where in the page the n-th request or response stands, and how many bytes it has.
func place[S slot](n uint16) (int, int) {
	var s S
	return s.first() + int(n%api.RingSlots)*len(s), len(s)
}

// word is a number as the page has it, the lower byte first.
func word(n uint16) []byte { return []byte{byte(n), byte(n >> 8)} }

// end is what each end of a ring keeps for itself: the page, and how many requests and responses it has dealt with, modulo 2^16.
type end struct {
	mfn       int
	requests  uint16 // put, or taken
	responses uint16 // got, or laid
}

// open is how many requests have no response yet.
func (n *end) open() int { return int(n.requests - n.responses) }
