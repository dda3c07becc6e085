package cons

import (
	"tenement/api"
	"tenement/view"
)

// Places in the page: the four numbers, and where each ring's bytes begin.
const (
	putOutAt   = 0 // the guest's
	takenOutAt = 2 // the daemon's
	takenInAt  = 4 // the guest's
	putInAt    = 6 // the daemon's
	outAt      = 16
	inAt       = 160
)

// How many bytes a ring has room for. Both go into 2^16, so that a number's place stays the same when it wraps.
const (
	outBytes = 128
	inBytes  = 64
)

const lineEnd = 10

// numbers are what a ring's two ends tell one another. The guest's is read anew each time; the daemon's is kept here, for the guest may write over it in the page.
type numbers struct {
	own uint16 // bytes that the daemon has taken or put in, modulo 2^16
}

// reach tells at which place of a ring of that size the next byte stands, and how many of so many bytes stand there ahead of the ring's end.
func (n *numbers) reach(count, size int) (int, int) {
	place := int(n.own) % size
	return place, min(count, size-place)
}

// moved counts bytes that the daemon has moved, and tells the guest of them.
func (n *numbers) moved(v *view.View, mfn, at, count int) {
	n.own += uint16(count)
	v.Write(mfn, at, []byte{byte(n.own), byte(n.own >> 8)})
}

// outRing is the ring of the bytes that the guest puts out, with what came of those that are taken.
type outRing struct {
	numbers
	lines []string // as they are shown
	rest  []byte   // of the next line; as bytes, for a letter may be in two parts
}

// drain takes what lies ahead, and tells how much that was and whether the guest's number claims more than the ring can hold.
func (r *outRing) drain(v *view.View, mfn int) (int, bool, api.Errno) {
	put, e := v.Word(mfn, putOutAt)
	if e != api.OK {
		return 0, false, e
	}
	ahead := int(put - r.own)
	clamped := ahead > outBytes
	ahead = min(ahead, outBytes)
	// The number could be read, so these reads of the same page don't err.
	place, straight := r.reach(ahead, outBytes)
	b, _ := v.Read(mfn, outAt+place, straight)
	r.take(b)
	if wrapped := ahead - straight; wrapped > 0 {
		b, _ = v.Read(mfn, outAt, wrapped)
		r.take(b)
	}
	r.moved(v, mfn, takenOutAt, ahead)
	return ahead, clamped, api.OK
}

// take makes lines of bytes.
func (r *outRing) take(l []byte) {
	for _, b := range l {
		if b != lineEnd {
			r.rest = append(r.rest, b)
		}
		if b == lineEnd || len(r.rest) == api.MaxLine {
			r.lines = append(r.lines, Show(r.rest))
			r.rest = r.rest[:0]
		}
	}
}

// inRing is the ring of the bytes that the guest takes in.
type inRing struct{ numbers }

// feed lays as many bytes as have room, and tells how many.
func (r *inRing) feed(v *view.View, mfn int, b []byte) (int, api.Errno) {
	taken, e := v.Word(mfn, takenInAt)
	if e != api.OK {
		return 0, e
	}
	// A guest that claims to have taken what was never put in gets nothing.
	room := max(inBytes-int(r.own-taken), 0)
	b = b[:min(len(b), room)]
	// A page that can't be written is the guest's loss: the bytes are put in all the same.
	place, straight := r.reach(len(b), inBytes)
	v.Write(mfn, inAt+place, b[:straight])
	v.Write(mfn, inAt, b[straight:])
	r.moved(v, mfn, putInAt, len(b))
	return len(b), api.OK
}
