package ring

import (
	"bytes"

	"tenement/api"
	"tenement/phys"
)

// Front is a guest's end of a ring that behaves well.
type Front struct {
	end
	machine *phys.Machine // nil: no call made it
}

// Open makes the front end of the ring in a frame, and leaves the page as it is.
func Open(m *phys.Machine, mfn int) (*Front, api.Errno) {
	if _, e := m.Frame(mfn); e != api.OK {
		return nil, e
	}
	return &Front{end: end{mfn: mfn}, machine: m}, api.OK
}

// Put lays the next request, and then tells the back how many there are.
func (f *Front) Put(request []byte) api.Errno {
	if !f.exists() {
		return api.ErrZero
	}
	off, size := place[requestSlot](f.requests)
	if len(request) != size {
		return api.ErrArg
	}
	if f.Room() == 0 {
		return api.ErrFull
	}
	// As with a response, a page that can't be written refuses nothing.
	f.machine.Write(f.mfn, off, request)
	f.requests++
	f.machine.Write(f.mfn, indexAt, word(f.requests))
	return api.OK
}

// Get reads the next response, if the back has laid it.
func (f *Front) Get() ([]byte, api.Errno) {
	if !f.exists() {
		return nil, api.ErrZero
	}
	if f.open() == 0 {
		return nil, api.ErrState
	}
	laid, e := f.machine.Read(f.mfn, laidAt, wordBytes)
	if e != api.OK {
		return nil, e
	}
	if bytes.Equal(laid, word(f.responses)) {
		return nil, api.ErrShort
	}
	off, size := place[responseSlot](f.responses)
	f.responses++
	return f.machine.Read(f.mfn, off, size)
}

// Room is how many more requests may be put.
func (f *Front) Room() int {
	if !f.exists() {
		return 0
	}
	return api.RingSlots - f.open()
}

func (f *Front) exists() bool { return f != nil && f.machine != nil }
