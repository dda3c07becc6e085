package blk_test

import (
	"bytes"
	"math"
	"slices"
	"testing"

	"tenement/api"
	"tenement/blk"
	"tenement/grant"
	"tenement/image"
	"tenement/p2m"
	"tenement/phys"
	"tenement/ring"
	"tenement/view"
)

// Frames of a test's machine. Most of them are the front's, domain 1, and stand at the place of the same number.
const (
	own   = 0 // the backend's, domain 0
	table = 1 // the front's grant frame
	slots = 2 // the ring's page
	list  = 3 // a page for segments
	b1    = 4 // buffers
	b2    = 5
	b3    = 6
	tab   = 7 // a page table
	alien = 8 // domain 2's, at a place of the front's all the same
	free  = 9 // nobody's, at a place too
	size  = 10
)

// Entries of the front's grant frame. Those of the numbers 1 to 9 permit the backend the frames of these numbers.
const (
	none     = 0
	nowhere  = 10 // names a place without a frame
	readOnly = 11 // b1
	partly   = 12 // b1, from 16 on, 8 bytes
	others   = 13 // permits domain 2
	taker    = 14 // takes a frame
	junk     = 15 // can't be
	last     = 31 // b3
)

// noRefs are those by which the backend can map nothing.
var noRefs = []int{none, alien, free, nowhere, partly, others, taker, junk, 30, 32, 255}

// sectors is how many the disk has.
const sectors = 20

// bed is a backend with all that it works on.
type bed struct {
	t *testing.T
	m *phys.Machine
	p *p2m.Map
	g *grant.Grants
	x *image.Image
	d *blk.Back
	f *ring.Front
	v *view.View
}

// makeBed makes a backend in domain 0 for domain 1, whose disk has that many free blocks.
func makeBed(t *testing.T, blocks int) *bed { return makeBedFor(t, 0, 1, blocks) }

// makeBedFor makes one for other domains.
func makeBedFor(t *testing.T, back, front, blocks int) *bed {
	t.Helper()
	m, _ := phys.New(size)
	x := &bed{t: t, m: m, g: grant.New(m)}
	x.p, _ = p2m.New(size + 1)
	for mfn, owner := range []int{back, front, front, front, front, front, front, front, 2} {
		if n, e := m.Alloc(owner); n != mfn || e != api.OK {
			t.Fatalf("Alloc(%d) = %d, %v", owner, n, e)
		}
		want(t, "Write", m.Write(mfn, 0, filled(mfn)), api.OK)
	}
	want(t, "Write", m.Write(table, 0, make([]byte, 256)), api.OK)
	want(t, "Write", m.Write(slots, 0, make([]byte, 256)), api.OK)
	for mfn := 1; mfn < size; mfn++ {
		want(t, "Set", x.p.Set(mfn, mfn), api.OK)
	}
	want(t, "Join", x.g.Join(front, table, x.p), api.OK)
	want(t, "Get", m.Get(tab, front, api.KL1), api.OK)
	x.grants(back)
	var e api.Errno
	x.x, e = image.New(base(), blocks)
	want(t, "image.New", e, api.OK)
	x.d, e = blk.New(x.g, back, front, slots, x.x)
	want(t, "New", e, api.OK)
	x.f, e = ring.Open(m, slots)
	want(t, "ring.Open", e, api.OK)
	x.view()
	return x
}

// grants lays the front's entries.
func (x *bed) grants(back int) {
	x.t.Helper()
	for mfn := 1; mfn < size; mfn++ {
		x.grant(mfn, api.Grant{Kind: 1, Dom: back, Gpfn: mfn})
	}
	x.grant(nowhere, api.Grant{Kind: 1, Dom: back, Gpfn: size})
	x.grant(readOnly, api.Grant{Kind: 1, RO: true, Dom: back, Gpfn: b1})
	x.grant(partly, api.Grant{Kind: 1, Sub: true, Dom: back, Gpfn: b1, Off: 16, Len: 8})
	x.grant(others, api.Grant{Kind: 1, Dom: 2, Gpfn: b1})
	x.grant(taker, api.Grant{Kind: 2, Dom: back, Gpfn: size})
	x.lay(table, 8*junk, 0x11, 0, byte(back), 0, b1)
	x.grant(last, api.Grant{Kind: 1, Dom: back, Gpfn: b3})
}

func (x *bed) grant(ref int, g api.Grant) {
	x.t.Helper()
	x.lay(table, 8*ref, packed(x.t, g)...)
}

// packed is an entry's bytes; of one that is not of a part its length need not be said.
func packed(t *testing.T, g api.Grant) []byte {
	t.Helper()
	if !g.Sub {
		g.Len = 256
	}
	b, e := grant.Pack(g)
	want(t, "grant.Pack", e, api.OK)
	return b
}

// lay does what the front does to one of its pages.
func (x *bed) lay(mfn, off int, b ...byte) {
	x.t.Helper()
	want(x.t, "Write", x.m.Write(mfn, off, b), api.OK)
}

// view lets the next calls have a new view with those rewrites.
func (x *bed) view(l ...api.Poke) {
	x.t.Helper()
	v, e := view.New(x.m, l)
	want(x.t, "view.New", e, api.OK)
	x.v = v
}

func want(t *testing.T, what string, got, e api.Errno) {
	t.Helper()
	if got != e {
		t.Errorf("%s: %v, not %v", what, got, e)
	}
}

// filled are bytes that tell the frame and the place in it.
func filled(mfn int) []byte {
	l := make([]byte, api.PageBytes)
	for i := range l {
		l[i] = byte(i*7 + mfn*31 + 1)
	}
	return l
}

// part is sectors first to last of a frame as it was filled.
func part(mfn, first, last int) []byte { return filled(mfn)[64*first : 64*last+64] }

// base is the disk's; no two sectors have the same bytes.
func base() []byte {
	b := make([]byte, 64*sectors)
	for i := range b {
		b[i] = byte(i*3 + i/64*50)
	}
	return b
}

// based is the base's bytes of sectors.
func based(first, n int) []byte { return base()[64*first : 64*(first+n)] }

// request makes one.
func request(op, id, sector int, l ...api.Segment) api.Request {
	return api.Request{Op: op, ID: id, Sector: sector, Segs: l}
}

// put lays a request into the ring, and its segments into the page that the ref of that frame permits, unless page is -1.
func (x *bed) put(r api.Request, page int) {
	x.t.Helper()
	head, paged, e := blk.Pack(r, page)
	want(x.t, "Pack", e, api.OK)
	if page != -1 {
		x.lay(page, 0, paged...)
	}
	x.putRaw(head)
}

func (x *bed) putRaw(b []byte) {
	x.t.Helper()
	want(x.t, "Put", x.f.Put(b), api.OK)
}

// step asks how many requests are done.
func (x *bed) step(most, n int) {
	x.t.Helper()
	if got, e := x.d.Step(x.v, most); got != n || e != api.OK {
		x.t.Errorf("Step(%d) = %d, %v, not %d", most, got, e, n)
	}
}

// answered asks for the next response, by its bytes.
func (x *bed) answered(r api.Reply) {
	x.t.Helper()
	b, e := x.f.Get()
	want(x.t, "Get", e, api.OK)
	if is := []byte{byte(r.ID), byte(r.ID >> 8), byte(r.Op), byte(r.Status), 0, 0, 0, 0}; !bytes.Equal(b, is) {
		x.t.Errorf("the response is %x, not %x", b, is)
	}
}

// unanswered asks that there is no other response.
func (x *bed) unanswered() {
	x.t.Helper()
	if b, e := x.f.Get(); e == api.OK {
		x.t.Errorf("there is a response %x", b)
	}
}

// told asks for the last reply, and that no map has stayed.
func (x *bed) told(r api.Reply) {
	x.t.Helper()
	if l := x.d.Replies(); len(l) == 0 || l[len(l)-1] != r {
		x.t.Errorf("Replies are %v, not %v last", l, r)
	}
	for dom := range api.MaxDoms {
		if l := x.g.Maps(dom); len(l) != 0 {
			x.t.Errorf("maps have stayed: %v", l)
		}
	}
}

// doneRaw puts 16 bytes, and asks for the status and for how often the view is read: twice for the ring, and so often for the request itself.
func (x *bed) doneRaw(b []byte, status, reads int) {
	x.t.Helper()
	was := x.v.Reads()
	x.putRaw(b)
	x.step(8, 1)
	r := api.Reply{ID: int(b[2]) + 256*int(b[3]), Op: int(b[0]), Status: status}
	x.answered(r)
	x.unanswered()
	x.told(r)
	if n := x.v.Reads() - was; n != 2+reads {
		x.t.Errorf("request %x: %d reads, not %d", b, n, 2+reads)
	}
}

// done puts a request and does as doneRaw.
func (x *bed) done(r api.Request, page int, status, reads int) {
	x.t.Helper()
	head, paged, e := blk.Pack(r, page)
	want(x.t, "Pack", e, api.OK)
	if page != -1 {
		x.lay(page, 0, paged...)
	}
	x.doneRaw(head, status, reads)
}

// bad asks that bytes are answered SBad, and that nothing but the ring's page has changed.
func (x *bed) bad(b []byte, reads int) {
	x.t.Helper()
	was := x.picture()
	x.doneRaw(b, api.SBad, reads)
	x.same(was)
}

// picture is all that there is beside the ring's page and the answers.
type picture struct {
	frames []api.Frame
	bytes  []byte
	disk   []byte
	dirty  []int
	free   int
}

func (x *bed) picture() picture {
	p := picture{dirty: x.x.Dirty(), free: x.x.Free()}
	for mfn := range size {
		f, _ := x.m.Frame(mfn)
		p.frames = append(p.frames, f)
		if mfn != slots {
			b, _ := x.m.Read(mfn, 0, 256)
			p.bytes = append(p.bytes, b...)
		}
	}
	for sector := range x.x.Sectors() {
		b, _ := x.x.Read(sector)
		p.disk = append(p.disk, b...)
	}
	return p
}

func (p picture) equal(q picture) bool {
	return slices.Equal(p.frames, q.frames) && bytes.Equal(p.bytes, q.bytes) &&
		bytes.Equal(p.disk, q.disk) && slices.Equal(p.dirty, q.dirty) && p.free == q.free
}

func (x *bed) same(was picture) {
	x.t.Helper()
	if !x.picture().equal(was) {
		x.t.Errorf("something has changed: %v, %v", was, x.picture())
	}
}

// page asks for all bytes of a frame.
func (x *bed) page(mfn int, l ...[]byte) {
	x.t.Helper()
	if b, e := x.m.Read(mfn, 0, 256); !bytes.Equal(b, slices.Concat(l...)) || e != api.OK {
		x.t.Errorf("frame %d is %x, not %x", mfn, b, slices.Concat(l...))
	}
}

// disk asks for sectors from a first one on.
func (x *bed) disk(first int, l ...[]byte) {
	x.t.Helper()
	var b []byte
	for i := range len(slices.Concat(l...)) / 64 {
		one, _ := x.x.Read(first + i)
		b = append(b, one...)
	}
	if !bytes.Equal(b, slices.Concat(l...)) {
		x.t.Errorf("from sector %d on there is %x, not %x", first, b, slices.Concat(l...))
	}
}

// dirty asks which sectors have blocks, and how many are free.
func (x *bed) dirty(free int, l ...int) {
	x.t.Helper()
	if !slices.Equal(x.x.Dirty(), l) || x.x.Free() != free {
		x.t.Errorf("dirty are %v, not %v; %d are free, not %d", x.x.Dirty(), l, x.x.Free(), free)
	}
}

// P13.2

func TestNew(t *testing.T) {
	m, _ := phys.New(1)
	g := grant.New(m)
	for _, n := range []int{0, 1, 64 * 256} {
		x, e := image.New(make([]byte, n/64*64), 0)
		want(t, "image.New", e, api.OK)
		for back := range 8 {
			for front := range 8 {
				for _, mfn := range []int{0, 1, 100, 255} {
					d, e := blk.New(g, back, front, mfn, x)
					if d == nil || e != api.OK || d.Image() != x || d.Ring().Mfn() != mfn || len(d.Replies()) != 0 {
						t.Errorf("New(%d, %d, %d): %v", back, front, mfn, e)
					}
					if r := d.Ring(); r.Taken() != 0 || r.Laid() != 0 || r.Waiting() != 0 {
						t.Errorf("New(%d, %d, %d): its ring has been used", back, front, mfn)
					}
				}
			}
		}
	}
	if f, _ := m.Frame(0); f != (api.Frame{Owner: api.NoOwner}) || len(g.Maps(0)) != 0 {
		t.Errorf("New has taken something: %v", f)
	}
}

func TestNoNew(t *testing.T) {
	m, _ := phys.New(1)
	g := grant.New(m)
	x, _ := image.New(nil, 0)
	no := func(g *grant.Grants, back, front, mfn int, x *image.Image, e api.Errno) {
		t.Helper()
		if d, ge := blk.New(g, back, front, mfn, x); d != nil || ge != e {
			t.Errorf("New(%d, %d, %d): %v, %v, not %v", back, front, mfn, d != nil, ge, e)
		}
	}
	ends := []int{math.MinInt, api.Hyper, api.NoOwner, 256, 257, math.MaxInt}
	for _, n := range append(ends, 8, 9, 255) {
		no(g, n, 1, 0, x, api.ErrArg)
		no(g, 0, n, 0, x, api.ErrArg)
		no(g, n, n, n, x, api.ErrArg)
	}
	for _, n := range ends {
		no(g, 0, 1, n, x, api.ErrArg)
	}
	// ErrZero is named first.
	for _, n := range append(ends, 0, 1, 8) {
		for _, none := range []*grant.Grants{nil, {}} {
			no(none, n, n, n, x, api.ErrZero)
			no(none, 0, 1, 2, x, api.ErrZero)
			no(none, 0, 1, 2, nil, api.ErrZero)
		}
		for _, none := range []*image.Image{nil, {}} {
			no(g, n, n, n, none, api.ErrZero)
			no(g, 0, 1, 2, none, api.ErrZero)
		}
	}
}

// P13.3: Step

func TestStepDoesUpToSoMany(t *testing.T) {
	x := makeBed(t, 3)
	x.step(5, 0)
	id := 0
	for _, c := range [][3]int{{5, 0, 0}, {5, 1, 1}, {5, 3, 3}, {5, 4, 4}, {5, 5, 5}, {5, 6, 5}, {8, 8, 8}, {8, math.MaxInt, 8}, {1, 256, 1}, {0, 7, 0}} {
		for range c[0] {
			x.put(request(api.DBarrier, id, 0), -1)
			id++
		}
		x.step(c[1], c[2])
		if n := x.d.Ring().Waiting(); n != c[0]-c[2] {
			t.Errorf("%d wait, not %d", n, c[0]-c[2])
		}
		x.step(8, c[0]-c[2])
		for i := range c[0] {
			x.answered(api.Reply{ID: id - c[0] + i, Op: api.DBarrier})
		}
		x.unanswered()
	}
	for i, r := range x.d.Replies() {
		if r != (api.Reply{ID: i, Op: api.DBarrier}) {
			t.Errorf("reply %d is %v", i, r)
		}
	}
	if len(x.d.Replies()) != id {
		t.Errorf("%d replies, not %d", len(x.d.Replies()), id)
	}
}

// More is asked of the ring at each Step alone: what the front lays meanwhile must wait.
func TestStepLooksOnce(t *testing.T) {
	x := makeBed(t, 0)
	x.view(api.Poke{At: 2, Mfn: slots, Off: 0, Bytes: []byte{5}})
	x.put(request(api.DBarrier, 1, 0), -1)
	x.put(request(api.DBarrier, 2, 0), -1)
	x.step(8, 2)
	if x.v.Reads() != 3 || x.v.Rest() != 0 {
		t.Errorf("%d reads", x.v.Reads())
	}
	x.step(8, 3)
	if x.v.Reads() != 7 {
		t.Errorf("%d reads", x.v.Reads())
	}
}

// Of no requests the ring is looked at too.
func TestStepOfNone(t *testing.T) {
	x := makeBed(t, 0)
	x.put(request(api.DBarrier, 1, 0), -1)
	x.step(0, 0)
	if x.v.Reads() != 1 || x.d.Ring().Waiting() != 1 || len(x.d.Replies()) != 0 {
		t.Errorf("%d reads, %d wait", x.v.Reads(), x.d.Ring().Waiting())
	}
	x.unanswered()
}

func TestStepOfLessThanNone(t *testing.T) {
	x := makeBed(t, 0)
	x.put(request(api.DBarrier, 1, 0), -1)
	for _, most := range []int{math.MinInt, math.MinInt32, -2, -1} {
		if n, e := x.d.Step(x.v, most); n != 0 || e != api.ErrArg {
			t.Errorf("Step(%d) = %d, %v", most, n, e)
		}
	}
	if x.v.Reads() != 0 || x.d.Ring().Waiting() != 0 || len(x.d.Replies()) != 0 {
		t.Error("a Step that was refused has done something")
	}
	x.step(1, 1)
}

// A ring's page that is no frame of the machine.
func TestStepOfNoPage(t *testing.T) {
	x := makeBed(t, 0)
	for _, mfn := range []int{size, 255} {
		d, e := blk.New(x.g, 0, 1, mfn, x.x)
		want(t, "New", e, api.OK)
		for _, most := range []int{0, 1, 8} {
			was := x.v.Reads()
			if n, e := d.Step(x.v, most); n != 0 || e != api.ErrArg {
				t.Errorf("Step = %d, %v", n, e)
			}
			if x.v.Reads() != was+1 || len(d.Replies()) != 0 {
				t.Errorf("%d reads", x.v.Reads()-was)
			}
		}
		if n, e := d.Step(x.v, -1); n != 0 || e != api.ErrArg || d.Ring().Taken() != 0 {
			t.Errorf("Step = %d, %v", n, e)
		}
	}
}

// A front that claims more requests than there are slots has as many done as there are.
func TestStepOfAFrontThatClaimsTooMany(t *testing.T) {
	x := makeBed(t, 0)
	x.lay(slots, 0, 255, 255)
	x.step(math.MaxInt, 8)
	x.step(3, 3)
	x.step(8, 8)
	if r := x.d.Ring(); r.Taken() != 19 || r.Laid() != 19 || r.Waiting() != 0 {
		t.Errorf("taken %d, laid %d", r.Taken(), r.Laid())
	}
	for _, r := range x.d.Replies() {
		if r != (api.Reply{Status: api.SBad}) {
			t.Errorf("a slot of noughts is answered %v", r)
		}
	}
}

// Who takes requests by the ring itself takes them from the backend, which goes on as far as the ring lets it.
func TestStepOfARingThatOthersUse(t *testing.T) {
	x := makeBed(t, 0)
	x.put(request(api.DBarrier, 1, 0), -1)
	x.step(1, 1)
	r := x.d.Ring()
	x.lay(slots, 0, 9)
	r.Look(x.v)
	for range 8 {
		if _, e := r.Take(x.v); e != api.OK {
			t.Errorf("Take: %v", e)
		}
	}
	x.lay(slots, 0, 12)
	x.step(8, 0) // Eight are under way.
	want(t, "Answer", r.Answer(x.v, make([]byte, 8)), api.OK)
	x.step(8, 3)
	if len(x.d.Replies()) != 4 || r.Taken() != 12 || r.Laid() != 5 || r.Waiting() != 0 {
		t.Errorf("%d replies, %d taken, %d laid", len(x.d.Replies()), r.Taken(), r.Laid())
	}
}

// A request is answered ahead of the next one's being taken: what is laid over its response meanwhile stays.
func TestEachIsAnsweredAheadOfTheNext(t *testing.T) {
	x := makeBed(t, 0)
	for id := range 3 {
		x.put(request(api.DBarrier, id+1, 0), -1)
	}
	over := bytes.Repeat([]byte{0xee}, 24)
	x.view(api.Poke{At: 2, Mfn: slots, Off: 144, Bytes: over}, api.Poke{At: 3, Mfn: slots, Off: 160, Bytes: over})
	x.step(8, 3)
	b, _ := x.m.Read(slots, 144, 24)
	if !bytes.Equal(b[:16], slices.Concat(over[:8], []byte{2, 0, 2, 0, 0, 0, 0, 0})) || !bytes.Equal(b[16:20], []byte{3, 0, 2, 0}) {
		t.Errorf("the responses are %x", b)
	}
}

// A request is done ahead of the next one's being taken: the disk's sector is laid over that one.
func TestEachIsDoneAheadOfTheNext(t *testing.T) {
	x := makeBed(t, 2)
	sector := make([]byte, 64)
	copy(sector[16:], raw(api.DBarrier, 0, 77))
	want(t, "Write", x.x.Write(3, sector), api.OK)
	x.put(request(api.DRead, 1, 3, seg(slots, 0, 0)), -1)
	x.put(request(api.DRead, 2, 0, seg(b1, 0, 0)), -1)
	x.lay(slots, 32, raw(api.DWrite, 1, 66, 0, 0, 0, 0, 0, b1)...)
	copy(sector[32:], raw(api.DBarrier, 0, 88))
	sector[0] = 2
	want(t, "Write", x.x.Write(3, sector), api.OK)
	x.step(8, 2)
	if l := x.d.Replies(); !slices.Equal(l, []api.Reply{{ID: 1}, {ID: 88, Op: api.DBarrier}}) {
		t.Errorf("Replies are %v", l)
	}
}

// P13.3: what is malformed

func TestMalformed(t *testing.T) {
	x := makeBed(t, 9)
	for op := range 256 {
		for _, n := range []byte{0, 1, 2, 4, 5, 16, 17, 255} {
			b := raw(byte(op), n, 0x34, 0x12, 1, 0, 0, 0, b1, 0, b2, 0, b3, 0, b1, 0)
			if _, _, _, e := blk.Unpack(b); e == api.ErrForm {
				x.bad(b, 0)
			}
		}
	}
	for _, b := range [][]byte{
		raw(0, 1, 9, 0, 0, 0, 0, 0, b1, 0x10), raw(1, 1, 9, 0, 0, 0, 0, 0, b1, 0x80), raw(0, 1, 9, 0, 0, 0, 0, 0, b1, 1),
		raw(1, 2, 9, 0, 0, 0, 0, 0, b1, 0, b2, 0x20), raw(1, 4, 9, 0, 0, 0, 0, 0, b1, 0, b2, 0, b3, 0, b1, 2),
		raw(3, 1, 255, 255, 0, 0, 0, 0, list, 2), raw(3, 1, 0, 1, 0, 0, 0, 0, list, 3), raw(3, 1, 1, 0, 0, 0, 0, 0, list, 255),
	} {
		x.bad(b, 0)
	}
}

// P13.3: a page of segments

func TestIndirect(t *testing.T) {
	x := makeBed(t, sectors)
	x.done(request(api.DWrite, 300, 2, seg(b1, 1, 2), seg(b2, 0, 3), seg(b1, 0, 0)), list, api.SOK, 2+3+3)
	x.disk(0, based(0, 2), part(b1, 1, 2), part(b2, 0, 3), part(b1, 0, 0), based(9, sectors-9))
	x.dirty(sectors-7, 2, 3, 4, 5, 6, 7, 8)
	x.done(request(api.DRead, 301, 4, seg(b3, 3, 3), seg(last, 0, 1)), list, api.SOK, 2+2)
	x.page(b3, part(b2, 1, 2), part(b3, 2, 2), part(b2, 0, 0))
}

// As many segments as may be, more of them than a request has itself.
func TestIndirectOfManySegments(t *testing.T) {
	for n := 1; n <= 16; n++ {
		x := makeBed(t, sectors)
		var l []api.Segment
		var data []byte
		for i := range n {
			mfn, place := []int{b1, b2, b3}[i%3], i%4
			l, data = append(l, seg(mfn, place, place)), append(data, part(mfn, place, place)...)
		}
		x.done(request(api.DWrite, n, 4, l...), list, api.SOK, 2+2*n)
		x.disk(4, data, based(4+n, sectors-4-n))
		x.done(request(api.DRead, n, 4, l...), list, api.SOK, 2+n)
	}
}

// By what refs a page of segments may come, and that one which can't is SBad.
func TestIndirectPage(t *testing.T) {
	x := makeBed(t, sectors)
	two := []byte{b2, 0, b3, 0}
	for _, ref := range []int{list, b1, readOnly, last, tab, table, slots} {
		mfn := ref
		switch ref {
		case readOnly:
			mfn = b1
		case last:
			mfn = b3
		}
		was, _ := x.m.Read(mfn, 0, 4)
		x.lay(mfn, 0, two...)
		if mfn != slots { // The ring's own numbers stand there.
			x.doneRaw(raw(3, 2, 9, 0, 0, 0, 0, 0, byte(ref), 1), api.SOK, 2+2+2)
		}
		x.lay(mfn, 0, was...)
	}
	for _, ref := range []int{none, others, taker, junk, 30, alien, free, nowhere} {
		x.bad(raw(3, 2, 9, 0, 0, 0, 0, 0, byte(ref), 1), 1)
	}
	for _, ref := range []byte{32, 33, 128, 255} {
		x.bad(raw(3, 2, 9, 0, 0, 0, 0, 0, ref, 1), 0)
	}
}

// A part of a page can be pulled, as far as it goes and from its own beginning on.
func TestIndirectPartOfAPage(t *testing.T) {
	x := makeBed(t, sectors)
	x.lay(b1, 16, b2, 0, b2, 5, b3, 0, b3, 5)
	for n := byte(1); n <= 4; n++ {
		x.doneRaw(raw(3, n, 9, 0, 0, 0, 0, 0, partly, 1), api.SOK, 2+2*int(n))
	}
	x.disk(0, part(b2, 0, 1), part(b3, 0, 1))
	for n := byte(5); n <= 16; n++ {
		x.bad(raw(3, n, 9, 0, 0, 0, 0, 0, partly, 1), 1)
	}
}

func TestIndirectSegmentsThatAreMalformed(t *testing.T) {
	for n := range 16 {
		x := makeBed(t, sectors)
		for _, wrong := range []byte{0x10, 0x20, 0x40, 0x80, 1, 2, 3, 6, 11} {
			x.lay(list, 0, bytes.Repeat([]byte{b1, 0}, 16)...)
			x.lay(list, 2*n+1, wrong)
			for _, op := range []byte{0, 1} {
				x.bad(raw(3, byte(n+1), 9, 0, 0, 0, 0, 0, list, op), 2)
				x.bad(raw(3, 16, 9, 0, 0, 0, 0, 0, list, op), 2)
			}
			// Behind the last segment there is none.
			if n > 0 {
				x.doneRaw(raw(3, byte(n), 9, 0, 0, 0, 0, 0, list, 1), api.SOK, 2+2*n)
			}
		}
	}
}

// P13.3: the sectors

func TestSectorsOfTheDisk(t *testing.T) {
	x := makeBed(t, sectors)
	for _, op := range []int{api.DRead, api.DWrite} {
		for _, c := range []struct {
			n int
			l []api.Segment
		}{{1, []api.Segment{seg(b1, 3, 3)}}, {4, []api.Segment{seg(b1, 0, 3)}}, {3, []api.Segment{seg(b1, 1, 1), seg(b2, 2, 3)}}} {
			for _, first := range []int{0, 1, sectors - c.n - 1, sectors - c.n} {
				reads := len(c.l)
				if op == api.DWrite {
					reads *= 2
				}
				x.done(request(op, 1, first, c.l...), -1, api.SOK, reads)
			}
			for _, first := range []int{sectors - c.n + 1, sectors, sectors + 1, 255, 256, 1 << 16, 1 << 24, 1 << 31, 1<<32 - 64, 1<<32 - 1} {
				b, _, _ := blk.Pack(request(op, 1, first, c.l...), -1)
				x.bad(b, 0)
			}
		}
	}
}

// All segments together count, those of a page too; no page is mapped ahead of that.
func TestSectorsOfAllSegments(t *testing.T) {
	x := makeBed(t, sectors)
	var l []api.Segment
	for i := range 5 {
		l = append(l, seg([]int{b1, b2, b3}[i%3], 0, 3))
	}
	x.done(request(api.DWrite, 1, 0, l...), list, api.SOK, 2+10)
	b, _, _ := blk.Pack(request(api.DWrite, 1, 1, l...), list)
	x.bad(b, 2)
	b, paged, _ := blk.Pack(request(api.DRead, 1, 0, append(l, seg(none, 2, 2))...), list)
	x.lay(list, 0, paged...)
	x.bad(b, 2)
	for i := range 16 {
		x.lay(list, 2*i, none, 12)
	}
	x.bad(raw(3, 16, 1, 0, 0, 0, 0, 0, list, 0), 2)
}

// A barrier is of no sectors, but its sector is one of the disk or right behind it.
func TestBarrier(t *testing.T) {
	x := makeBed(t, 0)
	was := x.picture()
	for sector := range sectors + 1 {
		x.done(request(api.DBarrier, 65535-sector, sector), -1, api.SOK, 0)
	}
	for _, sector := range []int{sectors + 1, 255, 256, 1 << 16, 1 << 31, 1<<32 - 1} {
		b, _, _ := blk.Pack(request(api.DBarrier, 1, sector), -1)
		x.bad(b, 0)
	}
	x.same(was)
}

// A disk of no sectors is there for barriers alone.
func TestNoSectors(t *testing.T) {
	x := makeBed(t, 0)
	x.x, _ = image.New(nil, 4)
	x.d, _ = blk.New(x.g, 0, 1, slots, x.x)
	x.done(request(api.DBarrier, 1, 0), -1, api.SOK, 0)
	b, _, _ := blk.Pack(request(api.DBarrier, 1, 1), -1)
	x.bad(b, 0)
	b, _, _ = blk.Pack(request(api.DRead, 1, 0, seg(b1, 0, 0)), -1)
	x.bad(b, 0)
}

// P13.3: maps

// A segment that can't be mapped, at each place among others that can: the maps ahead of it go, those behind it are not made.
func TestSegmentsThatCantBeMapped(t *testing.T) {
	x := makeBed(t, sectors)
	for _, op := range []int{api.DRead, api.DWrite} {
		wrong := slices.Clone(noRefs)
		if op == api.DRead {
			wrong = append(wrong, readOnly, tab)
		}
		for _, ref := range wrong {
			for n := 1; n <= 4; n++ {
				for at := range n {
					l := []api.Segment{seg(b1, 0, 0), seg(b2, 1, 2), seg(last, 3, 3), seg(b1, 2, 2)}[:n]
					l[at].Ref = ref
					reads := at + 1
					if ref > 31 { // There is no such entry to be read.
						reads = at
					}
					head, _, _ := blk.Pack(request(op, 1, 2, l...), -1)
					x.bad(head, reads)
					head, paged, _ := blk.Pack(request(op, 1, 2, l...), list)
					x.lay(list, 0, paged...)
					x.bad(head, 2+reads)
				}
			}
		}
	}
}

// A write reads, so that what may only be read, and page tables too, can be written to the disk.
func TestWriteOfWhatMayBeRead(t *testing.T) {
	x := makeBed(t, sectors)
	x.done(request(api.DWrite, 1, 3, seg(readOnly, 1, 2), seg(tab, 0, 0), seg(table, 2, 2)), -1, api.SOK, 6)
	grants, _ := x.m.Read(table, 128, 64)
	x.disk(3, part(b1, 1, 2), part(tab, 0, 0), grants)
}

// A backend has no more maps than its domain may have, whoever made them.
func TestAsManyMapsAsMayBe(t *testing.T) {
	x := makeBed(t, sectors)
	var l []api.Segment
	for range 16 {
		l = append(l, seg(b1, 0, 0))
	}
	for held := range 18 {
		if held > 0 {
			_, e := x.g.Map(x.v, 0, 1, b2, false)
			want(t, "Map", e, when(held > 16, api.ErrMaps))
		}
		held = min(held, 16)
		for n := 1; n <= 16; n++ {
			x.putPaged(l[:n])
			was := x.v.Reads()
			x.step(1, 1)
			r, reads := api.Reply{ID: n, Op: api.DIndirect}, 4+n
			if n+held > 16 {
				r.Status, reads = api.SBad, 4+16-held
			}
			x.answered(r)
			if got := x.v.Reads() - was; got != reads {
				t.Errorf("%d segments beside %d maps: %d reads, not %d", n, held, got, reads)
			}
			if got := len(x.g.Maps(0)); got != held {
				t.Errorf("%d maps, not %d", got, held)
			}
		}
	}
	if f, _ := x.m.Frame(b1); f.Total != 0 {
		t.Errorf("a buffer is %v", f)
	}
}

// putPaged puts a read of some segments by a page, by their number as its ID.
func (x *bed) putPaged(l []api.Segment) {
	x.t.Helper()
	x.put(request(api.DRead, len(l), 0, l...), list)
}

// P13.3: DRead

// All parts of a page; nothing else of it, and of no other one, changes.
func TestRead(t *testing.T) {
	for first := range 4 {
		for end := first; end < 4; end++ {
			for _, sector := range []int{0, 5, sectors - 4} {
				x := makeBed(t, 4)
				want(t, "Write", x.x.Write(6, filled(99)[:64]), api.OK)
				var data []byte
				for i := range end - first + 1 {
					b, _ := x.x.Read(sector + i)
					data = append(data, b...)
				}
				was := x.picture()
				x.done(request(api.DRead, 0x102, sector, seg(b2, first, end)), -1, api.SOK, 1)
				wanted := filled(b2)
				copy(wanted[64*first:], data)
				x.page(b2, wanted)
				copy(was.bytes[256*(b2-1):], wanted) // the ring's page is not in it
				x.same(was)
			}
		}
	}
}

func TestReadIntoMoreSegments(t *testing.T) {
	x := makeBed(t, 4)
	x.done(request(api.DRead, 1, 4, seg(b1, 1, 2), seg(b2, 0, 0), seg(b1, 3, 3), seg(b3, 0, 3)), -1, api.SOK, 4)
	x.page(b1, part(b1, 0, 0), based(4, 2), based(7, 1))
	x.page(b2, based(6, 1), part(b2, 1, 3))
	x.page(b3, based(8, 4))
	x.dirty(4)
}

// Segment by segment: a later one is laid over an earlier one, also where both come by other refs.
func TestReadIntoThePageTwice(t *testing.T) {
	x := makeBed(t, 4)
	x.done(request(api.DRead, 1, 4, seg(b3, 0, 2), seg(last, 1, 3), seg(b3, 3, 3)), -1, api.SOK, 3)
	x.page(b3, based(4, 1), based(7, 2), based(10, 1))
}

// All entries are read ahead of the first byte that is laid: what is laid over them is nothing to this request.
func TestReadIntoTheGrantFrame(t *testing.T) {
	x := makeBed(t, 4)
	want(t, "Write", x.x.Write(5, make([]byte, 64)), api.OK)
	x.done(request(api.DRead, 1, 5, seg(table, 0, 0), seg(b1, 0, 0), seg(b2, 3, 3)), -1, api.SOK, 3)
	x.page(b1, based(6, 1), part(b1, 1, 3))
	x.page(b2, part(b2, 0, 2), based(7, 1))
	// Now those entries are noughts.
	b, _, _ := blk.Pack(request(api.DRead, 1, 5, seg(b1, 0, 0)), -1)
	x.bad(b, 1)
	x.done(request(api.DRead, 1, 5, seg(last, 0, 0)), -1, api.SOK, 1)
}

// P13.3: DWrite

func TestWrite(t *testing.T) {
	for first := range 4 {
		for end := first; end < 4; end++ {
			n := end - first + 1
			for _, sector := range []int{0, 5, sectors - n} {
				x := makeBed(t, 10)
				was := x.picture()
				x.done(request(api.DWrite, 0x102, sector, seg(b2, first, end)), -1, api.SOK, 2)
				x.disk(0, based(0, sector), part(b2, first, end), based(sector+n, sectors-sector-n))
				for i := range n {
					was.dirty = append(was.dirty, sector+i)
				}
				copy(was.disk[64*sector:], part(b2, first, end))
				was.free -= n
				x.same(was)
			}
		}
	}
}

func TestWriteOfMoreSegments(t *testing.T) {
	x := makeBed(t, 10)
	x.done(request(api.DWrite, 1, 4, seg(b1, 1, 2), seg(b2, 0, 0), seg(b1, 2, 3), seg(last, 0, 3)), -1, api.SOK, 8)
	x.disk(3, based(3, 1), part(b1, 1, 2), part(b2, 0, 0), part(b1, 2, 3), part(b3, 0, 3), based(13, 7))
	x.dirty(1, 4, 5, 6, 7, 8, 9, 10, 11, 12)
}

// The disk is what was written last, and what is read is that.
func TestWriteAndRead(t *testing.T) {
	x := makeBed(t, 4)
	x.done(request(api.DWrite, 1, 4, seg(b1, 0, 3)), -1, api.SOK, 2)
	x.done(request(api.DWrite, 2, 5, seg(b2, 0, 1)), -1, api.SOK, 2)
	x.done(request(api.DRead, 3, 3, seg(b3, 0, 3)), -1, api.SOK, 1)
	x.page(b3, based(3, 1), part(b1, 0, 0), part(b2, 0, 1))
	x.dirty(0, 4, 5, 6, 7)
	for sector := range sectors {
		if b, _ := x.x.Base(sector); !bytes.Equal(b, based(sector, 1)) {
			t.Errorf("the base has changed: sector %d is %x", sector, b)
		}
	}
}

// With a block less than it takes nothing is written; the pages have been read all the same.
func TestWriteToAFullDisk(t *testing.T) {
	for blocks := range 6 {
		x := makeBed(t, blocks+1)
		want(t, "Write", x.x.Write(7, filled(99)[:64]), api.OK)
		l := []api.Segment{seg(b1, 1, 2), seg(b2, 0, 2)} // of sectors 5 to 9, one of which has a block
		was := x.picture()
		if blocks < 4 {
			x.done(request(api.DWrite, 1, 5, l...), -1, api.SFull, 4)
			x.same(was)
			x.put(request(api.DWrite, 1, 5, l...), list)
			x.step(1, 1)
			x.answered(api.Reply{ID: 1, Op: api.DIndirect, Status: api.SFull})
			x.dirty(blocks, 7)
		} else {
			x.done(request(api.DWrite, 1, 5, l...), -1, api.SOK, 4)
			x.disk(4, based(4, 1), part(b1, 1, 2), part(b2, 0, 2), based(10, 10))
			x.dirty(blocks-4, 5, 6, 7, 8, 9)
		}
	}
}

// Sectors that have blocks can be written, however full it is, and all can be read.
func TestWriteToADiskWithNoFreeBlock(t *testing.T) {
	x := makeBed(t, 2)
	x.done(request(api.DWrite, 1, 5, seg(b1, 0, 1)), -1, api.SOK, 2)
	x.done(request(api.DWrite, 2, 5, seg(b2, 0, 1)), -1, api.SOK, 2)
	x.disk(4, based(4, 1), part(b2, 0, 1), based(7, 1))
	x.done(request(api.DWrite, 3, 6, seg(b1, 0, 1)), -1, api.SFull, 2)
	x.done(request(api.DWrite, 3, 4, seg(b1, 0, 1)), -1, api.SFull, 2)
	x.done(request(api.DRead, 4, 4, seg(b3, 0, 3)), -1, api.SOK, 1)
	x.page(b3, based(4, 1), part(b2, 0, 1), based(7, 1))
	x.dirty(0, 5, 6)
}

// What errs is told ahead of a disk that is full.
func TestBadAheadOfFull(t *testing.T) {
	x := makeBed(t, 0)
	b, _, _ := blk.Pack(request(api.DWrite, 1, sectors-1, seg(b1, 0, 1)), -1)
	x.bad(b, 0)
	b, _, _ = blk.Pack(request(api.DWrite, 1, 0, seg(b1, 0, 1), seg(none, 0, 0)), -1)
	x.bad(b, 2)
}

// Frames that the view's machine has not: a write can't read them, and so is not done.
func TestWriteThroughAViewOfAnotherMachine(t *testing.T) {
	x := makeBed(t, 10)
	m, _ := phys.New(b1)
	for mfn := range b1 {
		m.Alloc(1)
		b, _ := x.m.Read(mfn, 0, 256)
		m.Write(mfn, 0, b)
	}
	x.v, _ = view.New(m, nil)
	m.Write(slots, 0, []byte{2, 0})
	m.Write(slots, 16, raw(1, 2, 1, 0, 0, 0, 0, 0, list, 0, b1, 0))
	m.Write(slots, 32, raw(3, 2, 2, 0, 0, 0, 0, 0, b1, 1))
	was := x.picture()
	x.step(8, 2)
	x.told(api.Reply{ID: 2, Op: 3, Status: api.SBad})
	if l := x.d.Replies(); l[0] != (api.Reply{ID: 1, Op: 1, Status: api.SBad}) {
		t.Errorf("Replies are %v", l)
	}
	x.same(was)
}

// A backend may live in any domain, and be any one's, also its own front.
func TestBackendOfAnyDomain(t *testing.T) {
	for _, c := range [][2]int{{1, 1}, {3, 1}, {7, 1}, {0, 7}, {1, 0}, {5, 6}} {
		x := makeBedFor(t, c[0], c[1], 4)
		x.done(request(api.DWrite, 1, 4, seg(b1, 0, 3)), list, api.SOK, 4)
		x.done(request(api.DRead, 2, 4, seg(b3, 0, 3)), -1, api.SOK, 1)
		x.page(b3, part(b1, 0, 3))
		direct, _, _ := blk.Pack(request(api.DRead, 2, 4, seg(b1, 0, 3)), -1)
		paged, _, _ := blk.Pack(request(api.DRead, 2, 4, seg(b1, 0, 3)), list)
		for _, ref := range []byte{others, junk, alien} {
			b := slices.Clone(direct)
			b[8] = ref
			x.bad(b, 1)
		}
		// What is granted to this domain is not to another one.
		x.d, _ = blk.New(x.g, 4, c[1], slots, x.x)
		x.f, _ = ring.Open(x.m, slots)
		x.bad(direct, 1)
		x.bad(paged, 1)
		// And a front that grants nothing has nothing of this one's.
		x.d, _ = blk.New(x.g, c[0], 4, slots, x.x)
		x.f, _ = ring.Open(x.m, slots)
		x.bad(direct, 0)
		x.bad(paged, 0)
	}
}

// A front that has not joined grants nothing.
func TestFrontThatHasLeft(t *testing.T) {
	x := makeBed(t, 4)
	want(t, "Leave", x.g.Leave(1), api.OK)
	for _, b := range [][]byte{raw(0, 1, 1, 0, 0, 0, 0, 0, b1), raw(1, 1, 1, 0, 0, 0, 0, 0, b1), raw(3, 1, 1, 0, 0, 0, 0, 0, list)} {
		x.bad(b, 0)
	}
	x.done(request(api.DBarrier, 1, 0), -1, api.SOK, 0)
}

// P13.4

func TestReplies(t *testing.T) {
	x := makeBed(t, 1)
	if len(x.d.Replies()) != 0 {
		t.Errorf("Replies are %v", x.d.Replies())
	}
	var wanted []api.Reply
	for i := range 300 {
		id := i * 211 % 65536
		switch i % 4 {
		case 0:
			x.done(request(api.DRead, id, 0, seg(b1, 0, 0)), -1, api.SOK, 1)
			wanted = append(wanted, api.Reply{ID: id})
		case 1:
			x.done(request(api.DWrite, id, 1, seg(b1, 0, 1)), list, api.SFull, 4)
			wanted = append(wanted, api.Reply{ID: id, Op: api.DIndirect, Status: api.SFull})
		case 2:
			x.bad(raw(byte(i), 0, byte(id), byte(id>>8), 255), 0)
			wanted = append(wanted, api.Reply{ID: id, Op: i % 256, Status: api.SBad})
		case 3:
			x.done(request(api.DBarrier, id, 0), -1, api.SOK, 0)
			wanted = append(wanted, api.Reply{ID: id, Op: api.DBarrier})
		}
	}
	l := x.d.Replies()
	if !slices.Equal(l, wanted) {
		t.Errorf("Replies are %v, not %v", l, wanted)
	}
	clear(l[:cap(l)])
	if !slices.Equal(x.d.Replies(), wanted) {
		t.Error("what was told is the backend's own")
	}
	x.done(request(api.DBarrier, 1, 0), -1, api.SOK, 0)
	if l[0] != (api.Reply{}) {
		t.Error("what was told has changed")
	}
}

// The objects that it was given are those that it works on.
func TestImageAndRing(t *testing.T) {
	x := makeBed(t, 4)
	if x.d.Image() != x.x || x.d.Ring() != x.d.Ring() || x.d.Ring().Mfn() != slots {
		t.Error("Image, Ring")
	}
	want(t, "Write", x.d.Image().Write(3, filled(50)[:64]), api.OK)
	x.done(request(api.DRead, 1, 3, seg(b1, 0, 0)), -1, api.SOK, 1)
	x.page(b1, filled(50)[:64], part(b1, 1, 3))
	if r := x.d.Ring(); r.Taken() != 1 || r.Laid() != 1 {
		t.Errorf("taken %d, laid %d", r.Taken(), r.Laid())
	}
}

func TestNoBackend(t *testing.T) {
	x := makeBed(t, 4)
	x.put(request(api.DBarrier, 1, 0), -1)
	for _, d := range []*blk.Back{nil, {}, new(blk.Back)} {
		for _, v := range []*view.View{x.v, nil, {}} {
			for _, most := range []int{math.MinInt, -1, 0, 1, 8, math.MaxInt} {
				if n, e := d.Step(v, most); n != 0 || e != api.ErrZero {
					t.Errorf("Step(%d) = %d, %v", most, n, e)
				}
			}
		}
		if d.Image() != nil || d.Ring() != nil || len(d.Replies()) != 0 {
			t.Error("Image, Ring, Replies")
		}
	}
	if x.v.Reads() != 0 {
		t.Error("no backend has read")
	}
}

func TestNoView(t *testing.T) {
	x := makeBed(t, 4)
	x.put(request(api.DBarrier, 1, 0), -1)
	was := x.picture()
	for _, v := range []*view.View{nil, {}, new(view.View)} {
		for _, most := range []int{math.MinInt, -1, 0, 1, 8, math.MaxInt} {
			if n, e := x.d.Step(v, most); n != 0 || e != api.ErrZero {
				t.Errorf("Step(%d) = %d, %v", most, n, e)
			}
		}
	}
	x.same(was)
	if len(x.d.Replies()) != 0 || x.d.Ring().Waiting() != 0 {
		t.Error("no view has been looked through")
	}
	x.step(8, 1)
}

// The chapter's examples.
func TestExamples(t *testing.T) {
	x := makeBed(t, 0)
	x.x, _ = image.New(make([]byte, 256), 1)
	x.d, _ = blk.New(x.g, 0, 1, slots, x.x)
	x.done(request(api.DWrite, 1, 3, seg(b1, 0, 1)), -1, api.SBad, 0)
	x.done(request(api.DWrite, 2, 0, seg(b1, 0, 1)), -1, api.SFull, 2)
	x.dirty(1)
	x.done(request(api.DWrite, 3, 0, seg(b1, 0, 0)), -1, api.SOK, 2)
	x.dirty(0, 0)
}
