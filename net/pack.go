package net

import "tenement/api"

const (
	requestBytes = 16
	replyBytes   = 8
)

// Places in a request. Of a posted buffer what stands between its ref and its ID counts for nothing.
const (
	refAt  = iota
	offAt  // where in its page the frame begins
	sizeAt // how many bytes it has
	_
	idAt // the lower byte
	idTopAt
)

// Places in a response.
const (
	replyIDAt = iota // the lower byte
	replyIDTopAt
	statusAt
	deliveredAt // how many bytes
)

// slot is the bytes of a request of either kind.
type slot [requestBytes]byte

// The kinds of requests, each of which has a ring of its own.
type (
	packet struct{ slot } // a frame to be sent
	buffer struct{ slot } // a page to be filled
)

// request is a request of one of the kinds.
type request interface {
	packet | buffer
	id() int
}

// Packet tells the bytes of a request to send a frame of n bytes.
func Packet(ref int, off int, n int, id int) ([]byte, api.Errno) {
	if !isByte(ref) || !isByte(off) || !isByte(n) || !isWord(id) {
		return nil, api.ErrArg
	}
	b := make([]byte, requestBytes)
	b[refAt], b[offAt], b[sizeAt] = byte(ref), byte(off), byte(n)
	b[idAt], b[idTopAt] = byte(id), byte(id>>8)
	return b, api.OK
}

// Buffer tells the bytes of a request to fill a page.
func Buffer(ref int, id int) ([]byte, api.Errno) {
	return Packet(ref, 0, 0, id)
}

// Reply tells the ID, the status and the length of a response of eight bytes.
func Reply(b []byte) (int, int, int, api.Errno) {
	if len(b) != replyBytes {
		return 0, 0, 0, api.ErrArg
	}
	return word(b[replyIDAt], b[replyIDTopAt]), int(b[statusAt]), int(b[deliveredAt]), api.OK
}

// packReply tells the bytes of a response. What is delivered was on the switch, and so its length is one of a byte.
func packReply(id int, status int, n int) []byte {
	b := make([]byte, replyBytes)
	b[replyIDAt], b[replyIDTopAt] = byte(id), byte(id>>8)
	b[statusAt], b[deliveredAt] = byte(status), byte(n)
	return b
}

func (s slot) ref() int { return int(s[refAt]) }

func (s slot) id() int { return word(s[idAt], s[idTopAt]) }

func (p packet) off() int { return int(p.slot[offAt]) }

func (p packet) size() int { return int(p.slot[sizeAt]) }

func word(low, top byte) int { return int(low) | int(top)<<8 }

func isByte(n int) bool { return n >= 0 && n < 1<<8 }

func isWord(n int) bool { return n >= 0 && n < 1<<16 }
