package grant

import (
	"tenement/api"
	"tenement/view"
)

// end is an end of a copy that was found, of either kind.
type end interface {
	part() part
}

// grantEnd is an end that an entry names, by what the entry was at its one read.
type grantEnd struct {
	mfn   int
	entry api.Grant
}

// placeEnd is an end at a place of the caller itself.
type placeEnd struct{ mfn int }

// part is the bytes of a frame that may be asked for.
type part struct{ mfn, first, size int }

// Copy copies bytes from one end to another, each of which may be a grant or a place of the caller.
func (x *Grants) Copy(v *view.View, caller int, from api.End, to api.End, n int) api.Errno {
	b, e := x.Pull(v, caller, from, n)
	if e != api.OK {
		return e
	}
	return x.Push(v, caller, to, b)
}

// Pull tells n bytes of an end.
func (x *Grants) Pull(v *view.View, caller int, from api.End, n int) ([]byte, api.Errno) {
	a, e := x.find(v, caller, from, n)
	if e != api.OK {
		return nil, e
	}
	p := a.part()
	at, e := p.within(from.Off, n)
	if e != api.OK {
		return nil, e
	}
	return v.Read(p.mfn, at, n)
}

// Push lays bytes at an end.
func (x *Grants) Push(v *view.View, caller int, to api.End, b []byte) api.Errno {
	a, e := x.find(v, caller, to, len(b))
	if e != api.OK {
		return e
	}
	// The caller's own places have no mode.
	if g, ok := a.(grantEnd); ok && g.entry.RO {
		return api.ErrMode
	}
	p := a.part()
	at, e := p.within(to.Off, len(b))
	if e != api.OK {
		return e
	}
	// A page table is changed by validated updates alone, by its own domain too.
	if f, _ := x.m.Frame(p.mfn); f.Type == api.KL1 || f.Type == api.KL2 {
		return api.ErrType
	}
	return x.m.Write(p.mfn, at, b)
}

// find finds an end, of which n bytes are asked for, by its one read, if it is of a grant.
func (x *Grants) find(v *view.View, caller int, a api.End, n int) (end, api.Errno) {
	if !x.made() || !isView(v) {
		return nil, api.ErrZero
	}
	if !isDomain(caller) || n < 0 || a.Off < 0 {
		return nil, api.ErrArg
	}
	if a.Grant {
		return x.findGrant(v, caller, slot{a.Dom, a.Ref})
	}
	return x.findPlace(caller, a.Gpfn)
}

func (x *Grants) findGrant(v *view.View, caller int, at slot) (end, api.Errno) {
	if !x.isSlot(at.dom, at.ref) {
		return nil, api.ErrArg
	}
	g, e := x.entry(v, at, permit, caller)
	if e != api.OK {
		return nil, e
	}
	mfn, e := x.granted(at.dom, g)
	if e != api.OK {
		return nil, e
	}
	return grantEnd{mfn: mfn, entry: g}, api.OK
}

func (x *Grants) findPlace(caller int, gpfn int) (end, api.Errno) {
	if !x.joined(caller) {
		return nil, api.ErrArg
	}
	mfn, e := x.members[caller].places.Get(gpfn)
	if e != api.OK {
		return nil, e
	}
	return placeEnd{mfn: mfn}, api.OK
}

// part is what the entry permits; of an entry that is not Sub that is a page.
func (a grantEnd) part() part { return part{a.mfn, a.entry.Off, a.entry.Len} }

func (a placeEnd) part() part { return page(a.mfn) }

// page is all of a frame.
func page(mfn int) part { return part{mfn, 0, api.PageBytes} }

// within is where, in the frame, n bytes from off on of a part begin. Nothing that was handed in is added up ahead of the look at it, for a sum could go past an int.
func (p part) within(off int, n int) (int, api.Errno) {
	if off < 0 || n < 0 || n > p.size-off {
		return 0, api.ErrRange
	}
	return p.first + off, api.OK
}
