// Package phys is layer 1: the machine's frames, each with an owner, a type, two counts and its bytes.
package phys

import (
	"iter"

	"tenement/api"
)

// frame is what a machine keeps of one frame; it is free just where its owner is NoOwner, so that nothing else need say so.
type frame struct {
	api.Frame
	bytes [api.PageBytes]byte
}

// Machine is a machine's frames. They lie in an array, so that an assignment copies them all.
type Machine struct {
	size   int // 0: no call made it
	frames [api.MaxFrames]frame
}

// New makes a machine of n free frames.
func New(n int) (*Machine, api.Errno) {
	if n < 1 || n > api.MaxFrames {
		return nil, api.ErrArg
	}
	m := &Machine{size: n}
	for i := range n {
		m.frames[i] = blank()
	}
	return m, api.OK
}

// Size is the number of frames.
func (m *Machine) Size() int {
	if !m.made() {
		return 0
	}
	return m.size
}

// Left is the number of free frames.
func (m *Machine) Left() int {
	n := 0
	for range m.owned(api.NoOwner) {
		n++
	}
	return n
}

// Alloc gives the free frame of the least number to a domain or to the hypervisor.
func (m *Machine) Alloc(owner int) (int, api.Errno) {
	if !m.made() {
		return 0, api.ErrZero
	}
	if owner != api.Hyper && !isDomain(owner) {
		return 0, api.ErrArg
	}
	for mfn := range m.owned(api.NoOwner) {
		m.frames[mfn].Owner = owner
		return mfn, api.OK
	}
	return 0, api.ErrNoFrames
}

// Free scrubs a frame that nothing refers to and takes it from its owner.
func (m *Machine) Free(mfn int) api.Errno {
	f, e := m.at(mfn)
	if e != api.OK {
		return e
	}
	if e := f.idle(); e != api.OK {
		return e
	}
	*f = blank()
	return api.OK
}

// Give hands a frame that nothing refers to over to a domain, with its bytes.
func (m *Machine) Give(mfn int, to int) api.Errno {
	f, e := m.at(mfn)
	if e != api.OK {
		return e
	}
	if !isDomain(to) {
		return api.ErrArg
	}
	if e := f.idle(); e != api.OK {
		return e
	}
	f.Owner = to
	return api.OK
}

// Frame tells a frame's owner, type and counts.
func (m *Machine) Frame(mfn int) (api.Frame, api.Errno) {
	f, e := m.at(mfn)
	if e != api.OK {
		return api.Frame{}, e
	}
	return f.Frame, api.OK
}

// Get takes a reference of a kind to an owner's frame.
func (m *Machine) Get(mfn int, owner int, kind int) api.Errno {
	f, e := m.at(mfn)
	if e != api.OK {
		return e
	}
	if !isKind(kind) {
		return api.ErrArg
	}
	if f.Owner == api.NoOwner {
		return api.ErrFree
	}
	if f.Owner != owner {
		return api.ErrOwner
	}
	return f.take(kind)
}

// Put lets a reference of a kind go.
func (m *Machine) Put(mfn int, kind int) api.Errno {
	f, e := m.at(mfn)
	if e != api.OK {
		return e
	}
	if !isKind(kind) {
		return api.ErrArg
	}
	return f.drop(kind)
}

// Owned tells the numbers of an owner's frames, rising.
func (m *Machine) Owned(owner int) []int {
	var l []int
	for mfn := range m.owned(owner) {
		l = append(l, mfn)
	}
	return l
}

// Read tells bytes of a frame, whoever owns it.
func (m *Machine) Read(mfn int, off int, n int) ([]byte, api.Errno) {
	f, e := m.at(mfn)
	if e != api.OK {
		return nil, e
	}
	if !inPage(off, n) {
		return nil, api.ErrArg
	}
	b := make([]byte, n)
	copy(b, f.bytes[off:])
	return b, api.OK
}

// Write lays bytes into a frame that is not free, whoever owns it.
func (m *Machine) Write(mfn int, off int, b []byte) api.Errno {
	f, e := m.at(mfn)
	if e != api.OK {
		return e
	}
	if !inPage(off, len(b)) {
		return api.ErrArg
	}
	if f.Owner == api.NoOwner {
		return api.ErrFree
	}
	copy(f.bytes[off:], b)
	return api.OK
}

// Copy makes a machine of its own with the same frames.
func (m *Machine) Copy() *Machine {
	if !m.made() {
		return nil
	}
	c := *m
	return &c
}

func (m *Machine) made() bool { return m != nil && m.size != 0 }

// at is the frame of that number, or why there is none.
func (m *Machine) at(mfn int) (*frame, api.Errno) {
	if !m.made() {
		return nil, api.ErrZero
	}
	if mfn < 0 || mfn >= m.size {
		return nil, api.ErrArg
	}
	return &m.frames[mfn], api.OK
}

// owned goes over the numbers of an owner's frames, rising; of no machine there are none.
func (m *Machine) owned(owner int) iter.Seq[int] {
	return func(yield func(int) bool) {
		for mfn := range m.Size() {
			if m.frames[mfn].Owner == owner && !yield(mfn) {
				return
			}
		}
	}
}

// blank is a free frame.
func blank() frame { return frame{Frame: api.Frame{Owner: api.NoOwner}} }

// idle tells why a frame can't change its owner, if so.
func (f *frame) idle() api.Errno {
	if f.Owner == api.NoOwner {
		return api.ErrFree
	}
	if f.Total != 0 {
		return api.ErrBusy
	}
	return api.OK
}

func (f *frame) take(kind int) api.Errno {
	if kind == api.KNone {
		f.Total++
		return api.OK
	}
	if f.Count != 0 && f.Type != kind {
		return api.ErrType
	}
	f.Type = kind
	f.Count++
	f.Total++
	return api.OK
}

func (f *frame) drop(kind int) api.Errno {
	if !f.has(kind) {
		return api.ErrCount
	}
	f.Total--
	if kind == api.KNone {
		return api.OK
	}
	f.Count--
	if f.Count == 0 {
		f.Type = api.KNone
	}
	return api.OK
}

// has tells whether there is a reference of that kind. A type but KNone stands only where Count is not 0, so the type alone answers.
func (f *frame) has(kind int) bool {
	if kind == api.KNone {
		return f.Total != f.Count
	}
	return f.Type == kind
}

func isDomain(n int) bool { return n >= 0 && n < api.MaxDoms }

func isKind(n int) bool { return n >= api.KNone && n <= api.KL2 }

// inPage tells whether n bytes from off on lie in a page. Nothing is added up, for a sum could go past an int.
func inPage(off int, n int) bool {
	return off >= 0 && n >= 0 && n <= api.PageBytes-off
}
