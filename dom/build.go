package dom

import (
	"tenement/api"
	"tenement/p2m"
	"tenement/pte"
)

// build makes a domain of a number that has none, and tells that number. What it has taken goes back, should a step err.
func (h *Hyper) build(dom int, size int) (n int, e api.Errno) {
	var frames []int
	joined := false
	defer func() {
		if e == api.OK {
			return
		}
		if joined {
			h.grants.Leave(dom)
		}
		for _, mfn := range frames {
			h.m.Free(mfn)
		}
	}()
	for range size + api.TableReserve {
		mfn, e := h.m.Alloc(dom)
		if e != api.OK {
			return 0, e
		}
		frames = append(frames, mfn)
	}
	pages, root, leaf := frames[:size], frames[size], frames[size+1]
	places, e := placed(pages)
	if e != api.OK {
		return 0, e
	}
	if e := h.lay(root, []int{leaf}); e != api.OK {
		return 0, e
	}
	if e := h.lay(leaf, pages); e != api.OK {
		return 0, e
	}
	// Somebody may have joined as this number by the grants' own call. That shows ahead of the root's being taken, at which an old root of the number would go.
	if e := h.grants.Join(dom, pages[0], places); e != api.OK {
		return 0, e
	}
	joined = true
	if e := h.tables.Base(dom, root); e != api.OK {
		return 0, e
	}
	h.domains[dom] = domain{state: api.DomPaused, size: size, grant: pages[0], places: places}
	return dom, api.OK
}

// placed is a domain's places, with frames from the first one on.
func placed(frames []int) (*p2m.Map, api.Errno) {
	places, e := p2m.New(api.MaxDomFrames)
	if e != api.OK {
		return nil, e
	}
	for gpfn, mfn := range frames {
		if e := places.Set(gpfn, mfn); e != api.OK {
			return nil, e
		}
	}
	return places, api.OK
}

// lay writes entries that name frames, in order, to the beginning of a table that is not in use yet.
func (h *Hyper) lay(table int, frames []int) api.Errno {
	var b []byte
	for _, mfn := range frames {
		n, e := pte.Pack(api.Entry{Present: true, Write: true, Mfn: mfn})
		if e != api.OK {
			return e
		}
		b = append(b, byte(n), byte(n>>8), byte(n>>16), byte(n>>24))
	}
	return h.m.Write(table, 0, b)
}
