package blk

import (
	"slices"

	"tenement/api"
)

const (
	requestBytes = 16
	replyBytes   = 8
	segmentBytes = 2
)

// How many bits the numbers have that requests and responses are made of.
const (
	placeBits  = 2 // a sector's place in its page
	byteBits   = 8
	idBits     = 16
	sectorBits = 32
)

// noPage stands for the ref of a request that names no page.
const noPage = -1

// Pack tells the bytes of a request, and those of the page with its segments, if it is to name one.
func Pack(r api.Request, page int) ([]byte, []byte, api.Errno) {
	if !fitsRequest(r) || page != noPage && !fits(page, byteBits) {
		return nil, nil, api.ErrArg
	}
	if !mayHave(r.Op, len(r.Segs), page) || slices.ContainsFunc(r.Segs, isBackwards) {
		return nil, nil, api.ErrForm
	}
	op, tail, paged := r.Op, packSegments(r.Segs), []byte(nil)
	if page != noPage {
		op, tail, paged = api.DIndirect, []byte{byte(page), byte(r.Op)}, tail
	}
	b := slices.Concat([]byte{byte(op), byte(len(r.Segs))}, bytesOf(r.ID, idBits), bytesOf(r.Sector, sectorBits), tail)
	return append(b, make([]byte, requestBytes-len(b))...), paged, api.OK
}

// Unpack tells the request of 16 bytes, the ref of the page with its segments, and how many of them there are.
func Unpack(b []byte) (api.Request, int, int, api.Errno) {
	if len(b) != requestBytes {
		return api.Request{}, 0, 0, api.ErrArg
	}
	n, page, tail := int(b[1]), noPage, b[8:]
	r := api.Request{Op: int(b[0]), ID: requestID(b), Sector: number(b[4:8])}
	if r.Op == api.DIndirect {
		page, r.Op = int(tail[0]), int(tail[1])
	}
	if !mayHave(r.Op, n, page) {
		return api.Request{}, 0, 0, api.ErrForm
	}
	if page == noPage {
		segs, e := Segments(tail[:segmentBytes*n])
		if e != api.OK {
			return api.Request{}, 0, 0, e
		}
		r.Segs = segs
	}
	return r, page, n, api.OK
}

// Segments tells the segments that stand one behind the other.
func Segments(b []byte) ([]api.Segment, api.Errno) {
	if len(b)%segmentBytes != 0 {
		return nil, api.ErrArg
	}
	var l []api.Segment
	for two := range slices.Chunk(b, segmentBytes) {
		// The bits that must be 0 are the highest ones, so that with one of them the last place is none.
		s := api.Segment{Ref: int(two[0]), First: int(two[1]) % (1 << placeBits), Last: int(two[1]) >> placeBits}
		if !fits(s.Last, placeBits) || isBackwards(s) {
			return nil, api.ErrForm
		}
		l = append(l, s)
	}
	return l, api.OK
}

// PackReply tells the bytes of a response.
func PackReply(r api.Reply) ([]byte, api.Errno) {
	if !fits(r.ID, idBits) || !fits(r.Op, byteBits) || !fits(r.Status, byteBits) {
		return nil, api.ErrArg
	}
	b := append(bytesOf(r.ID, idBits), byte(r.Op), byte(r.Status))
	return append(b, make([]byte, replyBytes-len(b))...), api.OK
}

// UnpackReply tells the response of eight bytes.
func UnpackReply(b []byte) (api.Reply, api.Errno) {
	if len(b) != replyBytes {
		return api.Reply{}, api.ErrArg
	}
	return api.Reply{ID: number(b[:2]), Op: int(b[2]), Status: int(b[3])}, api.OK
}

// requestID is what a response to these bytes names, whether they are malformed or not.
func requestID(b []byte) int { return number(b[2:4]) }

// mayHave tells whether a request of an op, the proper one, may have so many segments, in itself or in a page. A page is of no op but these, so that it never names another one.
func mayHave(op int, n int, page int) bool {
	most := api.Inline
	if page != noPage {
		most = api.MaxSegs
	}
	switch op {
	case api.DRead, api.DWrite:
		return n >= 1 && n <= most
	case api.DBarrier:
		return n == 0 && page == noPage
	}
	return false
}

// fitsRequest tells whether a request's numbers are such as its bytes can tell. That its op names a page is told otherwise.
func fitsRequest(r api.Request) bool {
	if r.Op < api.DRead || r.Op > api.DBarrier || !fits(r.ID, idBits) || !fits(r.Sector, sectorBits) {
		return false
	}
	return !slices.ContainsFunc(r.Segs, func(s api.Segment) bool {
		return !fits(s.Ref, byteBits) || !fits(s.First, placeBits) || !fits(s.Last, placeBits)
	})
}

func isBackwards(s api.Segment) bool { return s.First > s.Last }

func packSegments(l []api.Segment) []byte {
	var b []byte
	for _, s := range l {
		b = append(b, byte(s.Ref), byte(s.First|s.Last<<placeBits))
	}
	return b
}

// fits tells whether a number is not below 0 and has no more than so many bits.
func fits(n int, bits int) bool { return n>>bits == 0 }

// number is that of some bytes, the lowest one first.
func number(b []byte) int {
	n := 0
	for i, x := range b {
		n |= int(x) << (byteBits * i)
	}
	return n
}

func bytesOf(n int, bits int) []byte {
	var b []byte
	for at := 0; at < bits; at += byteBits {
		b = append(b, byte(n>>at))
	}
	return b
}
