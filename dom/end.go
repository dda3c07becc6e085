package dom

import "tenement/api"

// end takes a domain on from its state towards its end, as far as those let it who refer to its frames, and tells how many of these were freed.
func (h *Hyper) end(dom int) int {
	d := &h.domains[dom]
	freed := 0
	switch d.state {
	case api.DomPaused, api.DomRunning:
		h.release(dom)
		d.state = api.DomDying
		d.grant = noGrant
		// If nobody else maps its frames, it is gone already.
		fallthrough
	case api.DomDying:
		freed = h.reclaim(dom)
		if len(h.m.Owned(dom)) == 0 {
			*d = domain{}
		}
	}
	return freed
}

// release lets all go that a domain holds itself, so that only others may still refer to its frames.
func (h *Hyper) release(dom int) {
	h.events.Drop(dom)
	h.tables.Drop(dom)
	for _, a := range h.grants.Maps(dom) {
		h.grants.Unmap(dom, a.Handle)
	}
	h.grants.Leave(dom)
}

// reclaim frees a domain's frames that nobody refers to, and tells how many they were.
func (h *Hyper) reclaim(dom int) int {
	freed := 0
	for _, mfn := range h.m.Owned(dom) {
		// A frame that somebody refers to is refused there.
		if h.m.Free(mfn) == api.OK {
			h.vacate(mfn)
			freed++
		}
	}
	return freed
}

// vacate lets a frame stand at no place. All domains are asked, for a map that still named it would show its domain the next owner's bytes.
func (h *Hyper) vacate(mfn int) {
	for _, d := range h.domains {
		if gpfn, e := d.places.Find(mfn); e == api.OK {
			d.places.Clear(gpfn)
		}
	}
}
