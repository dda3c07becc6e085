package net_test

import (
	"bytes"

	"tenement/api"
	"tenement/bridge"
)

// Frames of a machine with two fronts, domains 1 and 2, whose backends live in domain 0. The pages of the first one begin at 1, of the other one at 7; each domain's stand at its places from 0 on.
const (
	home   = 0 // domain 0's
	each   = 6 // pages of a front, by their places:
	atIn   = 2
	atOut  = 1
	atBuf  = 3 // and the next one
	atTab  = 5 // a page table
	hers   = 6 // at this place of each stands a frame of the other one's
	gone   = 7 // and at this one a frame that is nobody's
	places = 9 // at the last one none does
	nobody = 1 + 2*each
	total  = nobody + 1
)

// first is the frame of a front's place 0, where its entries are.
func first(front int) int { return 1 + each*(front-1) }

// device is what a ghost knows of a backend.
type device struct {
	front int
	port  int
	taken [2]int // of its page out, of its page in
	seen  [2]int
}

// ghost does by hand, byte for byte, what the chapters say of two backends. It asks a switch of its own, which is told nothing but what the chapter names.
type ghost struct {
	bytes [total][256]byte
	pokes []api.Poke
	reads int
	s     *bridge.Bridge
	d     [2]device
	sent  []letter
	why   map[string]int
}

// letter is a frame as it was pulled, and where it was put on the switch.
type letter struct {
	port  int
	frame string
}

// may tells whether a guest may write a frame.
func may(mfn int) bool { return mfn != nobody && mfn != first(1)+atTab && mfn != first(2)+atTab }

// read does the rewrites of this read, and then tells the bytes.
func (g *ghost) read(mfn, off, n int) []byte {
	for _, p := range g.pokes {
		if p.At == g.reads && may(p.Mfn) && p.Off+len(p.Bytes) <= 256 {
			copy(g.bytes[p.Mfn][p.Off:], p.Bytes)
		}
	}
	g.reads++
	return bytes.Clone(g.bytes[mfn][off : off+n])
}

// page is that of a ring: 0 is the page out, 1 the page in.
func (d *device) page(ring int) int { return first(d.front) + atOut + ring }

// look sees up to eight requests of a ring.
func (g *ghost) look(d *device, ring int) {
	two := g.read(d.page(ring), 0, 2)
	index := int(two[0]) + 256*int(two[1])
	d.seen[ring] = d.taken[ring] + 8
	for n := range 8 {
		if (d.taken[ring]+n)%65536 == index {
			d.seen[ring] = d.taken[ring] + n
		}
	}
}

// take tells the next slot of a ring.
func (g *ghost) take(d *device, ring int) []byte {
	n := d.taken[ring] % 8
	d.taken[ring]++
	return g.read(d.page(ring), 16+16*n, 16)
}

// answer lays a response to a slot.
func (g *ghost) answer(d *device, ring int, slot []byte, status, n int) {
	page := &g.bytes[d.page(ring)]
	copy(page[144+8*((d.taken[ring]-1)%8):], []byte{slot[4], slot[5], byte(status), byte(n), 0, 0, 0, 0})
	page[2], page[3] = byte(d.taken[ring]), byte(d.taken[ring]>>8)
}

// entry reads a front's entry, and tells the frame that it permits domain 0, if it does, and its bytes; of a whole page the last two are laid so.
func (g *ghost) entry(d *device, ref byte) (int, []byte, bool) {
	if ref > 31 {
		return 0, nil, false
	}
	e := g.read(first(d.front), 8*int(ref), 8)
	if e[0]&8 == 0 {
		e[6], e[7] = 0, 255
	}
	mine := e[0] < 16 && e[0]&3 == 1 && e[1] == 0 && e[2] == 0 && e[3] == 0
	there := e[4] < each && e[5] == 0
	return first(d.front) + int(e[4]), e, mine && there && int(e[6])+int(e[7]) < 256
}

// send does as Send.
func (g *ghost) send(d *device, most int) int {
	g.look(d, 0)
	n := 0
	for n < most && d.taken[0] < d.seen[0] {
		slot := g.take(d, 0)
		g.answer(d, 0, slot, g.forward(d, slot), 0)
		n++
	}
	return n
}

// forward pulls a frame and puts it on the switch, and tells the status.
func (g *ghost) forward(d *device, slot []byte) int {
	mfn, e, ok := g.entry(d, slot[0])
	if !ok {
		g.why["no entry"]++
		g.s.Bad(d.port)
		return api.SBad
	}
	off, n := int(slot[1]), int(slot[2])
	if off+n > int(e[7])+1 {
		g.why["too long"]++
		g.s.Bad(d.port)
		return api.SBad
	}
	frame := g.read(mfn, int(e[6])+off, n)
	switch g.s.Send(d.port, frame) {
	case api.ErrForm:
		g.why["no frame"]++
		return api.SBad
	case api.ErrFull:
		g.why["no credit"]++
		return api.SFull
	}
	g.why["sent"]++
	g.sent = append(g.sent, letter{d.port, string(frame)})
	return api.SOK
}

// deliver does as Deliver.
func (g *ghost) deliver(d *device, most int) int {
	g.look(d, 1)
	n := 0
	for n < most && d.taken[1] < d.seen[1] {
		frame, e := g.s.Head(d.port)
		if e != api.OK {
			break
		}
		slot := g.take(d, 1)
		if status := g.fill(d, slot, frame); status == api.SOK {
			g.s.Done(d.port, true)
			g.answer(d, 1, slot, status, len(frame))
		} else {
			g.s.Done(d.port, false)
			g.answer(d, 1, slot, status, 0)
		}
		n++
	}
	return n
}

// fill lays a frame into a buffer, and tells the status.
func (g *ghost) fill(d *device, slot, frame []byte) int {
	mfn, e, ok := g.entry(d, slot[0])
	switch {
	case !ok:
		g.why["no buffer"]++
	case e[0]&4 != 0:
		g.why["read-only"]++
	case len(frame) > int(e[7])+1:
		g.why["too small"]++
	case !may(mfn):
		g.why["a table"]++
	default:
		g.why["delivered"]++
		copy(g.bytes[mfn][e[6]:], frame)
		return api.SOK
	}
	return api.SBad
}

// sentByOthers tells whether another port than this one has sent such a frame.
func (g *ghost) sentByOthers(port int, frame []byte) bool {
	for _, l := range g.sent {
		if l.port != port && l.frame == string(frame) {
			return true
		}
	}
	return false
}
