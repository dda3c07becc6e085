package net_test

import (
	"bytes"
	"slices"
	"testing"

	"tenement/api"
	"tenement/bridge"
	"tenement/grant"
	"tenement/net"
	"tenement/p2m"
	"tenement/phys"
	"tenement/ring"
	"tenement/view"
)

// Frames of a test's machine. Most of them are the front's, domain 1, and stand at the place of the same number.
const (
	own   = 0 // the backend's, domain 0
	table = 1 // the front's grant frame
	outs  = 2 // the page out
	ins   = 3 // the page in
	b1    = 4 // buffers
	b2    = 5
	b3    = 6
	tab   = 7 // a page table
	alien = 8 // domain 2's, at a place of the front's all the same
	free  = 9 // nobody's, at a place too
	size  = 10
)

// Entries of the front's grant frame. Those of the numbers 1 to 9 permit the backend the frames of these numbers.
const (
	none     = 0
	nowhere  = 10 // names a place without a frame
	readOnly = 11 // b1
	partly   = 12 // b1, from 16 on, 8 bytes
	others   = 13 // permits domain 2
	taker    = 14 // takes a frame
	junk     = 15 // can't be
	end      = 16 // b2, from 200 on, 56 bytes, for reading
	last     = 31 // b3
)

// noRefs are those by which the backend can neither pull nor push anything, though they are read; those of unread are not.
var (
	noRefs = []int{none, alien, free, nowhere, others, taker, junk, 17, 30}
	unread = []int{32, 33, 64, 128, 255}
)

// port is the backend's of a switch with three.
const port = 1

// bed is a backend with all that it works on.
type bed struct {
	t   *testing.T
	m   *phys.Machine
	p   *p2m.Map
	g   *grant.Grants
	s   *bridge.Bridge
	d   *net.Back
	out *ring.Front
	in  *ring.Front
	v   *view.View
}

// makeBed makes a backend in domain 0 for domain 1. All ports may send for long.
func makeBed(t *testing.T) *bed { return makeBedFor(t, 0, 1) }

// makeBedFor makes one for other domains.
func makeBedFor(t *testing.T, back, front int) *bed {
	t.Helper()
	m, _ := phys.New(size)
	x := &bed{t: t, m: m, g: grant.New(m)}
	x.p, _ = p2m.New(size + 1)
	for mfn, owner := range []int{back, front, front, front, front, front, front, front, 2} {
		if n, e := m.Alloc(owner); n != mfn || e != api.OK {
			t.Fatalf("Alloc(%d) = %d, %v", owner, n, e)
		}
		x.lay(mfn, 0, filled(mfn)...)
	}
	for _, mfn := range []int{table, outs, ins} {
		x.lay(mfn, 0, make([]byte, 256)...)
	}
	for mfn := 1; mfn < size; mfn++ {
		want(t, "Set", x.p.Set(mfn, mfn), api.OK)
	}
	want(t, "Join", x.g.Join(front, table, x.p), api.OK)
	want(t, "Get", m.Get(tab, front, api.KL1), api.OK)
	x.grants(back)
	x.s, _ = bridge.New(3)
	for port := range 3 {
		want(t, "Rate", x.s.Rate(port, api.MaxCredit, 0), api.OK)
	}
	x.backend(back, front, outs, ins)
	return x
}

// backend makes one, and the front's ends of its rings.
func (x *bed) backend(back, front, out, in int) {
	x.t.Helper()
	var e api.Errno
	x.d, e = net.New(x.g, back, front, out, in, x.s, port)
	want(x.t, "New", e, api.OK)
	x.out, e = ring.Open(x.m, out)
	want(x.t, "ring.Open", e, api.OK)
	x.in, e = ring.Open(x.m, in)
	want(x.t, "ring.Open", e, api.OK)
	x.view()
}

// grants lays the front's entries.
func (x *bed) grants(back int) {
	x.t.Helper()
	for mfn := 1; mfn < size; mfn++ {
		x.grant(mfn, api.Grant{Kind: 1, Dom: back, Gpfn: mfn})
	}
	x.grant(nowhere, api.Grant{Kind: 1, Dom: back, Gpfn: size})
	x.grant(readOnly, api.Grant{Kind: 1, RO: true, Dom: back, Gpfn: b1})
	x.grant(partly, api.Grant{Kind: 1, Sub: true, Dom: back, Gpfn: b1, Off: 16, Len: 8})
	x.grant(others, api.Grant{Kind: 1, Dom: 2, Gpfn: b1})
	x.grant(taker, api.Grant{Kind: 2, Dom: back, Gpfn: size})
	x.lay(table, 8*junk, 0x11, 0, byte(back), 0, b1)
	x.grant(end, api.Grant{Kind: 1, RO: true, Sub: true, Dom: back, Gpfn: b2, Off: 200, Len: 56})
	x.grant(last, api.Grant{Kind: 1, Dom: back, Gpfn: b3})
}

func (x *bed) grant(ref int, g api.Grant) {
	x.t.Helper()
	x.lay(table, 8*ref, packed(x.t, g)...)
}

// packed is an entry's bytes; of one that is not of a part its length need not be said.
func packed(t *testing.T, g api.Grant) []byte {
	t.Helper()
	if !g.Sub {
		g.Len = 256
	}
	b, e := grant.Pack(g)
	want(t, "grant.Pack", e, api.OK)
	return b
}

// lay does what the front does to one of its pages.
func (x *bed) lay(mfn, off int, b ...byte) {
	x.t.Helper()
	want(x.t, "Write", x.m.Write(mfn, off, b), api.OK)
}

// view lets the next calls have a new view with those rewrites.
func (x *bed) view(l ...api.Poke) {
	x.t.Helper()
	v, e := view.New(x.m, l)
	want(x.t, "view.New", e, api.OK)
	x.v = v
}

func want(t *testing.T, what string, got, e api.Errno) {
	t.Helper()
	if got != e {
		t.Errorf("%s: %v, not %v", what, got, e)
	}
}

// filled are bytes that tell the frame and the place in it; nowhere among them is everybody's address.
func filled(mfn int) []byte {
	l := make([]byte, api.PageBytes)
	for i := range l {
		l[i] = byte((i*7 + mfn*31 + 1) % 255)
	}
	return l
}

// frameOf is a frame of n bytes from a port that is not the backend's, to everybody; no two of different numbers are the same.
func frameOf(n, number int) []byte {
	b := make([]byte, n)
	for i := range b {
		b[i] = byte(i*5 + number)
	}
	b[0], b[1] = 255, byte(100+number%100)
	return b
}

// comes lets a frame wait for the backend's port.
func (x *bed) comes(frame []byte) {
	x.t.Helper()
	want(x.t, "Send", x.s.Send(0, frame), api.OK)
}

func (x *bed) putOut(b []byte) {
	x.t.Helper()
	want(x.t, "Put", x.out.Put(b), api.OK)
}

func (x *bed) putIn(b []byte) {
	x.t.Helper()
	want(x.t, "Put", x.in.Put(b), api.OK)
}

// send asks how many requests are answered.
func (x *bed) send(most, n int) {
	x.t.Helper()
	if got, e := x.d.Send(x.v, most); got != n || e != api.OK {
		x.t.Errorf("Send(%d) = %d, %v, not %d", most, got, e, n)
	}
}

// deliver asks how many buffers are taken.
func (x *bed) deliver(most, n int) {
	x.t.Helper()
	if got, e := x.d.Deliver(x.v, most); got != n || e != api.OK {
		x.t.Errorf("Deliver(%d) = %d, %v, not %d", most, got, e, n)
	}
}

// refused asks that a Send or a Deliver errs, and that it does nothing but so many reads.
func (x *bed) refused(d *net.Back, call func(*net.Back, *view.View, int) (int, api.Errno), most int, e api.Errno, reads int) {
	x.t.Helper()
	was, done := x.picture(), x.v.Reads()
	if n, ge := call(d, x.v, most); n != 0 || ge != e {
		x.t.Errorf("of %d: %d, %v, not %v", most, n, ge, e)
	}
	if n := x.v.Reads() - done; n != reads {
		x.t.Errorf("of %d: %d reads, not %d", most, n, reads)
	}
	out, in := d.Rings()
	if out.Waiting()+in.Waiting() != 0 {
		x.t.Errorf("of %d: something was seen", most)
	}
	x.same(was)
}

// answered asks a front for the next response, by its bytes.
func (x *bed) answered(f *ring.Front, id, status, n int) {
	x.t.Helper()
	b, e := f.Get()
	want(x.t, "Get", e, api.OK)
	if is := []byte{byte(id), byte(id >> 8), byte(status), byte(n), 0, 0, 0, 0}; !bytes.Equal(b, is) {
		x.t.Errorf("the response is %x, not %x", b, is)
	}
}

// unanswered asks that there is no other response.
func (x *bed) unanswered(f *ring.Front) {
	x.t.Helper()
	if b, e := f.Get(); e == api.OK {
		x.t.Errorf("there is a response %x", b)
	}
}

// sent puts a frame's 16 bytes, and asks for its status and for how often the view is read: twice for the ring, and so often for the request itself.
func (x *bed) sent(b []byte, status, reads int) {
	x.t.Helper()
	was := x.v.Reads()
	x.putOut(b)
	x.send(8, 1)
	x.answered(x.out, int(b[4])+256*int(b[5]), status, 0)
	x.unanswered(x.out)
	if n := x.v.Reads() - was; n != 2+reads {
		x.t.Errorf("request %x: %d reads, not %d", b, n, 2+reads)
	}
}

// delivered puts a buffer's 16 bytes, and asks as sent; n is what was delivered.
func (x *bed) delivered(b []byte, status, n, reads int) {
	x.t.Helper()
	was := x.v.Reads()
	x.putIn(b)
	x.deliver(8, 1)
	x.answered(x.in, int(b[4])+256*int(b[5]), status, n)
	x.unanswered(x.in)
	if n := x.v.Reads() - was; n != 2+reads {
		x.t.Errorf("buffer %x: %d reads, not %d", b, n, 2+reads)
	}
}

// picture is all that there is beside the rings' pages.
type picture struct {
	frames []api.Frame
	bytes  []byte
	maps   int
	counts [3]api.Counts
	credit [3]int
	heads  [3]string
	known  [256]int
}

func (x *bed) picture() picture {
	p := picture{maps: len(x.g.Maps(0))}
	for mfn := range size {
		f, _ := x.m.Frame(mfn)
		p.frames = append(p.frames, f)
		if mfn != outs && mfn != ins {
			b, _ := x.m.Read(mfn, 0, 256)
			p.bytes = append(p.bytes, b...)
		}
	}
	for port := range 3 {
		p.counts[port], _ = x.s.Counts(port)
		p.credit[port] = x.s.Credit(port)
		head, _ := x.s.Head(port)
		p.heads[port] = string(head)
	}
	for addr := range p.known {
		at, e := x.s.Known(addr)
		p.known[addr] = at + 10*int(e)
	}
	return p
}

// same asks that there is what there was.
func (x *bed) same(was picture) {
	x.t.Helper()
	p := x.picture()
	if !slices.Equal(p.frames, was.frames) || p.maps != was.maps {
		x.t.Errorf("frames are %v, not %v; %d maps", p.frames, was.frames, p.maps)
	}
	if !bytes.Equal(p.bytes, was.bytes) {
		x.t.Errorf("bytes are %x, not %x", p.bytes, was.bytes)
	}
	if p.counts != was.counts || p.credit != was.credit || p.heads != was.heads || p.known != was.known {
		x.t.Errorf("the switch has changed: %+v, %v, %x, not %+v, %v, %x", p.counts, p.credit, p.heads, was.counts, was.credit, was.heads)
	}
}

// forget lets the switch know nobody at the backend's port, so that what is sent next goes to all.
func (x *bed) forget() {
	x.t.Helper()
	want(x.t, "Down", x.s.Down(port), api.OK)
}

// page asks for all bytes of a frame.
func (x *bed) page(mfn int, l ...[]byte) {
	x.t.Helper()
	if b, e := x.m.Read(mfn, 0, 256); !bytes.Equal(b, slices.Concat(l...)) || e != api.OK {
		x.t.Errorf("frame %d is %x, not %x", mfn, b, slices.Concat(l...))
	}
}

// counts asks for a port's numbers.
func (x *bed) counts(port int, c api.Counts) {
	x.t.Helper()
	if got, e := x.s.Counts(port); got != c || e != api.OK {
		x.t.Errorf("port %d: %+v, %v, not %+v", port, got, e, c)
	}
}

// waiting asks for all that waits for a port, and lets it go.
func (x *bed) waiting(port int, l ...[]byte) {
	x.t.Helper()
	for _, frame := range l {
		if b, e := x.s.Head(port); !bytes.Equal(b, frame) || e != api.OK {
			x.t.Errorf("for port %d waits %x, %v, not %x", port, b, e, frame)
		}
		x.s.Done(port, true)
	}
	if b, e := x.s.Head(port); e != api.ErrNone {
		x.t.Errorf("for port %d waits %x too", port, b)
	}
}

// packet is a sending request's bytes.
func (x *bed) packet(ref, off, n, id int) []byte {
	x.t.Helper()
	b, e := net.Packet(ref, off, n, id)
	want(x.t, "Packet", e, api.OK)
	return b
}

// buffer is a posted buffer's bytes.
func (x *bed) buffer(ref, id int) []byte {
	x.t.Helper()
	b, e := net.Buffer(ref, id)
	want(x.t, "Buffer", e, api.OK)
	return b
}
