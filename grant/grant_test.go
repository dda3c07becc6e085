package grant_test

import (
	"bytes"
	"math"
	"slices"
	"testing"

	"tenement/api"
	"tenement/grant"
	"tenement/p2m"
	"tenement/phys"
	"tenement/view"
)

// Frames of a test's machine. Domain 0 has four, domain 1 three, domain 2 two; each domain's first one is its grant frame, and they stand at its places from 0 on.
const (
	table0 = 0
	a1     = 1
	a2     = 2
	a3     = 3
	table1 = 4
	b1     = 5
	b2     = 6
	table2 = 7
	c1     = 8
	hyper  = 9
	free   = 10
	size   = 11 // and the number of the first frame that is none
)

// places is how many a domain has; those that have no frame are the last ones.
const places = 6

var ends = []int{math.MinInt, math.MinInt + 1, math.MinInt32, -257, math.MaxInt32, math.MaxInt - 1, math.MaxInt}

var noDomains = []int{math.MinInt, api.Hyper, api.NoOwner, api.MaxDoms, math.MaxInt}

var noRefs = []int{math.MinInt, -1, api.GrantSlots, math.MaxInt}

// bed is a machine with grants that domains 0 to 2 have joined.
type bed struct {
	t *testing.T
	m *phys.Machine
	x *grant.Grants
	p [3]*p2m.Map
	v *view.View
}

func makeBed(t *testing.T) *bed {
	t.Helper()
	m, _ := phys.New(size)
	b := &bed{t: t, m: m, x: grant.New(m)}
	if b.x == nil {
		t.Fatal("New: none")
	}
	for i := range b.p {
		b.p[i], _ = p2m.New(places)
	}
	for mfn, owner := range []int{0, 0, 0, 0, 1, 1, 1, 2, 2, api.Hyper} {
		if n, e := m.Alloc(owner); n != mfn || e != api.OK {
			t.Fatalf("Alloc(%d) = %d, %v", owner, n, e)
		}
		if owner >= 0 {
			gpfn, _ := b.p[owner].Hole()
			b.p[owner].Set(gpfn, mfn)
		}
	}
	for dom, mfn := range []int{table0, table1, table2} {
		b.want("Join", b.x.Join(dom, mfn, b.p[dom]), api.OK)
	}
	b.view()
	return b
}

// view lets the next calls have a new view with those rewrites.
func (b *bed) view(l ...api.Poke) {
	b.t.Helper()
	v, e := view.New(b.m, l)
	b.want("view.New", e, api.OK)
	b.v = v
}

func (b *bed) want(what string, got, e api.Errno) {
	b.t.Helper()
	want(b.t, what, got, e)
}

func want(t *testing.T, what string, got, e api.Errno) {
	t.Helper()
	if got != e {
		t.Errorf("%s: %v, not %v", what, got, e)
	}
}

// lay writes an entry into a domain's grant frame.
func (b *bed) lay(dom int, ref int, g api.Grant) {
	b.t.Helper()
	b.layBytes(dom, ref, packed(b.t, g)...)
}

func (b *bed) layBytes(dom int, ref int, l ...byte) {
	b.t.Helper()
	b.want("Write", b.m.Write([]int{table0, table1, table2}[dom], 8*ref, l), api.OK)
}

func packed(t *testing.T, g api.Grant) []byte {
	t.Helper()
	b, e := grant.Pack(g)
	want(t, "Pack", e, api.OK)
	return b
}

// fill makes all bytes of a frame other ones, which tell the frame and the place in it.
func (b *bed) fill(mfn int) {
	b.t.Helper()
	b.want("Write", b.m.Write(mfn, 0, filled(mfn)), api.OK)
}

func filled(mfn int) []byte {
	l := make([]byte, api.PageBytes)
	for i := range l {
		l[i] = byte(i*7 + mfn*31 + 1)
	}
	return l
}

// mapped maps and asks for a handle, or for an error and the handle 0.
func (b *bed) mapped(caller, owner, ref int, write bool, handle int, e api.Errno) {
	b.t.Helper()
	if got, ge := b.x.Map(b.v, caller, owner, ref, write); got != handle || ge != e {
		b.t.Errorf("Map(%d, %d, %d, %v) = %d, %v, not %d, %v", caller, owner, ref, write, got, ge, handle, e)
	}
}

func (b *bed) pulled(caller int, from api.End, n int, l []byte, e api.Errno) {
	b.t.Helper()
	if got, ge := b.x.Pull(b.v, caller, from, n); !bytes.Equal(got, l) || ge != e {
		b.t.Errorf("Pull(%d, %+v, %d) = %x, %v, not %x, %v", caller, from, n, got, ge, l, e)
	}
}

func (b *bed) pushed(caller int, to api.End, l []byte, e api.Errno) {
	b.t.Helper()
	if ge := b.x.Push(b.v, caller, to, l); ge != e {
		b.t.Errorf("Push(%d, %+v, %d bytes): %v, not %v", caller, to, len(l), ge, e)
	}
}

func (b *bed) read(caller, handle, off, n int, l []byte, e api.Errno) {
	b.t.Helper()
	if got, ge := b.x.Read(b.v, caller, handle, off, n); !bytes.Equal(got, l) || ge != e {
		b.t.Errorf("Read(%d, %d, %d, %d) = %x, %v, not %x, %v", caller, handle, off, n, got, ge, l, e)
	}
}

// wantFrame asks for a frame's type and counts.
func (b *bed) wantFrame(mfn, kind, count, total int) {
	b.t.Helper()
	if f, _ := b.m.Frame(mfn); f.Type != kind || f.Count != count || f.Total != total {
		b.t.Errorf("frame %d: type %d, count %d, total %d, not %d, %d, %d", mfn, f.Type, f.Count, f.Total, kind, count, total)
	}
}

// wantBytes looks at the machine itself, which is no read of a view.
func (b *bed) wantBytes(mfn, off int, l ...byte) {
	b.t.Helper()
	if got, e := b.m.Read(mfn, off, len(l)); !bytes.Equal(got, l) || e != api.OK {
		b.t.Errorf("frame %d has at %d %x, %v, not %x", mfn, off, got, e, l)
	}
}

func (b *bed) wantMaps(caller int, l ...api.Mapped) {
	b.t.Helper()
	if got := b.x.Maps(caller); !slices.Equal(got, l) {
		b.t.Errorf("Maps(%d) = %v, not %v", caller, got, l)
	}
}

func (b *bed) wantForeign(l ...int) {
	b.t.Helper()
	for owner, n := range l {
		if got := b.x.Foreign(owner); got != n {
			b.t.Errorf("Foreign(%d) = %d, not %d", owner, got, n)
		}
	}
}

// reads asks that so many reads are done by what f does.
func (b *bed) reads(n int, f func()) {
	b.t.Helper()
	was := b.v.Reads()
	f()
	if got := b.v.Reads() - was; got != n {
		b.t.Errorf("%d reads, not %d", got, n)
	}
}

// refused asks that what f does changes nothing.
func (b *bed) refused(f func()) {
	b.t.Helper()
	was := look(b)
	f()
	if !was.equal(look(b)) {
		b.t.Errorf("what was refused has changed something")
	}
}

// picture is all that a machine, its grants and its maps of places tell.
type picture struct {
	frames []api.Frame
	bytes  []byte
	maps   []api.Mapped
	places []api.Pair
}

func look(b *bed) picture {
	p := picture{}
	for mfn := range b.m.Size() {
		f, _ := b.m.Frame(mfn)
		l, _ := b.m.Read(mfn, 0, api.PageBytes)
		p.frames = append(p.frames, f)
		p.bytes = append(p.bytes, l...)
	}
	for dom := range api.MaxDoms {
		p.maps = append(p.maps, b.x.Maps(dom)...)
	}
	for _, m := range b.p {
		p.places = append(append(p.places, m.List()...), api.Pair{Gpfn: -1})
	}
	return p
}

func (p picture) equal(q picture) bool {
	return slices.Equal(p.frames, q.frames) && bytes.Equal(p.bytes, q.bytes) && slices.Equal(p.maps, q.maps) && slices.Equal(p.places, q.places)
}

// permitted is an entry that permits a domain a place whole.
func permitted(dom, gpfn int) api.Grant {
	return api.Grant{Kind: 1, Dom: dom, Gpfn: gpfn, Len: 256}
}

func readOnly(g api.Grant) api.Grant {
	g.RO = true
	return g
}

func partly(g api.Grant, off, n int) api.Grant {
	g.Sub, g.Off, g.Len = true, off, n
	return g
}

func taken(dom, gpfn int) api.Grant {
	return api.Grant{Kind: 2, Dom: dom, Gpfn: gpfn, Len: 256}
}

// wrongEntries are bytes of entries that give domain 1 nothing of a kind: they are of another kind, for another domain, or can't be.
func wrongEntries(kind byte) [][]byte {
	l := [][]byte{
		make([]byte, 8),
		{0, 0, 1, 0, 1, 0, 0, 255},
		{3 - kind, 0, 1, 0, 1, 0, 0, 255},
		{3, 0, 1, 0, 1, 0, 0, 255},
		{kind, 0, 0, 0, 1, 0, 0, 255},
		{kind, 0, 2, 0, 1, 0, 0, 255},
		{kind, 0, 1, 1, 1, 0, 0, 255},
		{kind, 0, 1, 128, 1, 0, 0, 255},
		{kind | 8, 0, 1, 0, 1, 0, 1, 255},
		{kind | 8, 0, 1, 0, 1, 0, 255, 1},
	}
	for bit := 4; bit < 16; bit++ {
		flags := int(kind) | 1<<bit
		l = append(l, []byte{byte(flags), byte(flags >> 8), 1, 0, 1, 0, 0, 255})
	}
	return l
}

// P6.1

func TestPack(t *testing.T) {
	for _, c := range []struct {
		g api.Grant
		b []byte
	}{
		{api.Grant{Len: 256}, []byte{0, 0, 0, 0, 0, 0, 0, 255}},
		{api.Grant{Len: 1}, []byte{0, 0, 0, 0, 0, 0, 0, 255}},
		{permitted(1, 2), []byte{1, 0, 1, 0, 2, 0, 0, 255}},
		{readOnly(permitted(1, 2)), []byte{5, 0, 1, 0, 2, 0, 0, 255}},
		{taken(0x1234, 0xabcd), []byte{2, 0, 0x34, 0x12, 0xcd, 0xab, 0, 255}},
		{taken(0xffff, 0xffff), []byte{2, 0, 0xff, 0xff, 0xff, 0xff, 0, 255}},
		{api.Grant{Kind: 1, Off: 16, Len: 8}, []byte{1, 0, 0, 0, 0, 0, 0, 255}},
		{api.Grant{Kind: 1, Off: 255, Len: 1}, []byte{1, 0, 0, 0, 0, 0, 0, 255}},
		{partly(permitted(0, 0), 16, 8), []byte{9, 0, 0, 0, 0, 0, 16, 7}},
		{partly(permitted(0, 0), 0, 256), []byte{9, 0, 0, 0, 0, 0, 0, 255}},
		{partly(permitted(0, 0), 0, 1), []byte{9, 0, 0, 0, 0, 0, 0, 0}},
		{partly(permitted(0, 0), 255, 1), []byte{9, 0, 0, 0, 0, 0, 255, 0}},
		{partly(permitted(0, 0), 128, 128), []byte{9, 0, 0, 0, 0, 0, 128, 127}},
		{partly(readOnly(taken(7, 256)), 1, 255), []byte{14, 0, 7, 0, 0, 1, 1, 254}},
		{partly(api.Grant{RO: true}, 3, 3), []byte{12, 0, 0, 0, 0, 0, 3, 2}},
	} {
		if b, e := grant.Pack(c.g); !bytes.Equal(b, c.b) || e != api.OK {
			t.Errorf("Pack(%+v) = %x, %v, not %x", c.g, b, e, c.b)
		}
	}
}

func TestPackErrors(t *testing.T) {
	for _, change := range []func(*api.Grant, int){
		func(g *api.Grant, n int) { g.Kind = n },
		func(g *api.Grant, n int) { g.Dom = n },
		func(g *api.Grant, n int) { g.Gpfn = n },
		func(g *api.Grant, n int) { g.Off = n },
		func(g *api.Grant, n int) { g.Len = n },
		func(g *api.Grant, n int) { g.Off, g.Len = n, n },
	} {
		for _, n := range append(ends, -1, 1<<16, 1<<16+1, 1<<32+1) {
			for _, sub := range []bool{false, true} {
				g := api.Grant{Kind: 1, Sub: sub, Len: 1}
				change(&g, n)
				wantNoPack(t, g)
			}
		}
	}
	for _, g := range []api.Grant{
		{Kind: 3, Len: 1}, {Kind: 4, Len: 1}, {Off: 256, Len: 1}, {Off: 256}, {Off: 255}, {}, {Kind: 1}, {Len: 257},
		{Off: 1, Len: 256}, {Off: 255, Len: 2}, {Off: 128, Len: 129}, {Off: 256, Len: -1}, {Off: -1, Len: 2},
	} {
		wantNoPack(t, g)
		g.Sub = true
		wantNoPack(t, g)
	}
}

func wantNoPack(t *testing.T, g api.Grant) {
	t.Helper()
	if b, e := grant.Pack(g); b != nil || e != api.ErrArg {
		t.Errorf("Pack(%+v) = %x, %v", g, b, e)
	}
}

func TestUnpack(t *testing.T) {
	for _, c := range []struct {
		b []byte
		g api.Grant
	}{
		{make([]byte, 8), api.Grant{Len: 256}},
		{[]byte{1, 0, 1, 0, 2, 0, 0, 255}, permitted(1, 2)},
		{[]byte{1, 0, 1, 0, 2, 0, 255, 255}, permitted(1, 2)},
		{[]byte{2, 0, 0x34, 0x12, 0xcd, 0xab, 16, 7}, taken(0x1234, 0xabcd)},
		{[]byte{5, 0, 0xff, 0xff, 0xff, 0xff, 1, 1}, readOnly(permitted(0xffff, 0xffff))},
		{[]byte{4, 0, 9, 0, 8, 0, 0, 0}, readOnly(api.Grant{Dom: 9, Gpfn: 8, Len: 256})},
		{[]byte{9, 0, 0, 0, 0, 0, 16, 7}, partly(permitted(0, 0), 16, 8)},
		{[]byte{8, 0, 0, 0, 0, 0, 0, 255}, partly(api.Grant{}, 0, 256)},
		{[]byte{10, 0, 3, 0, 0, 0, 255, 0}, partly(taken(3, 0), 255, 1)},
		{[]byte{13, 0, 0, 0, 0, 0, 1, 254}, partly(readOnly(permitted(0, 0)), 1, 255)},
	} {
		was := slices.Clone(c.b)
		if g, e := grant.Unpack(c.b); g != c.g || e != api.OK {
			t.Errorf("Unpack(%x) = %+v, %v, not %+v", c.b, g, e, c.g)
		}
		if !bytes.Equal(c.b, was) {
			t.Errorf("Unpack has changed %x", was)
		}
	}
}

func TestUnpackErrors(t *testing.T) {
	for n := range 20 {
		if n == 8 {
			continue
		}
		for _, fill := range []byte{0, 255} {
			if g, e := grant.Unpack(bytes.Repeat([]byte{fill}, n)); g != (api.Grant{}) || e != api.ErrArg {
				t.Errorf("Unpack of %d bytes = %+v, %v", n, g, e)
			}
		}
	}
	if g, e := grant.Unpack(nil); g != (api.Grant{}) || e != api.ErrArg {
		t.Errorf("Unpack of none = %+v, %v", g, e)
	}
}

// All flags, and of each kind of part all that lie in a page and all that don't.
func TestAllFlagsAndParts(t *testing.T) {
	for flags := range 1 << 16 {
		b := []byte{byte(flags), byte(flags >> 8), 1, 2, 3, 4, 0, 255}
		g, e := grant.Unpack(b)
		can := flags < 16 && flags%4 != 3
		if can != (e == api.OK) || !can && (g != (api.Grant{}) || e != api.ErrGrant) {
			t.Fatalf("Unpack(%x) = %+v, %v", b, g, e)
		}
		if again, e := grant.Pack(g); can && (!bytes.Equal(again, b) || e != api.OK) {
			t.Fatalf("Pack(%+v) = %x, %v, not %x", g, again, e, b)
		}
	}
	for off := range 256 {
		for n := 1; n <= 256; n++ {
			b := []byte{9, 0, 0, 0, 0, 0, byte(off), byte(n - 1)}
			g, e := grant.Unpack(b)
			if off+n > 256 {
				if g != (api.Grant{}) || e != api.ErrGrant {
					t.Fatalf("Unpack(%x) = %+v, %v", b, g, e)
				}
			} else if again, pe := grant.Pack(g); g != partly(permitted(0, 0), off, n) || e != api.OK || !bytes.Equal(again, b) || pe != api.OK {
				t.Fatalf("Unpack(%x) = %+v, %v; Pack = %x, %v", b, g, e, again, pe)
			}
		}
	}
}

// P6.2

func TestNew(t *testing.T) {
	for _, m := range []*phys.Machine{nil, {}} {
		if grant.New(m) != nil {
			t.Error("New of no machine")
		}
	}
	m, _ := phys.New(1)
	if grant.New(m) == nil {
		t.Error("New: none")
	}
}

func TestJoin(t *testing.T) {
	b := makeBed(t)
	for _, mfn := range []int{table0, table1, table2} {
		b.wantFrame(mfn, api.KWrite, 1, 1)
	}
	// A domain may join with any frame of its own, and with places that have nothing to do with it.
	b.want("Leave", b.x.Leave(0), api.OK)
	b.want("Join", b.x.Join(0, a3, b.p[1]), api.OK)
	b.wantFrame(table0, api.KNone, 0, 0)
	b.wantFrame(a3, api.KWrite, 1, 1)
	b.m.Write(a3, 8*31, packed(t, permitted(2, 1)))
	b.mapped(2, 0, 31, false, 0, api.ErrGrant)
	b.p[1].Set(4, a1)
	b.m.Write(a3, 8*31, packed(t, permitted(2, 4)))
	b.mapped(2, 0, 31, false, 0, api.OK)
	b.wantMaps(2, api.Mapped{Handle: 0, Caller: 2, Owner: 0, Ref: 31, Mfn: a1})
}

func TestJoinOfManyDomains(t *testing.T) {
	m, _ := phys.New(api.MaxDoms)
	x := grant.New(m)
	p, _ := p2m.New(0)
	for dom := range api.MaxDoms {
		m.Alloc(dom)
		want(t, "Join", x.Join(dom, dom, p), api.OK)
		want(t, "Join twice", x.Join(dom, dom, p), api.ErrTwice)
	}
	for dom := range api.MaxDoms {
		want(t, "Leave", x.Leave(dom), api.OK)
		want(t, "Leave twice", x.Leave(dom), api.ErrNone)
		if f, _ := m.Frame(dom); f != (api.Frame{Owner: dom}) {
			t.Errorf("frame %d: %+v", dom, f)
		}
	}
}

func TestJoinErrors(t *testing.T) {
	b := makeBed(t)
	b.want("Leave", b.x.Leave(0), api.OK)
	b.m.Get(a1, 0, api.KL1)
	b.m.Get(a2, 0, api.KL2)
	p := b.p[0]
	b.refused(func() {
		for _, dom := range noDomains {
			b.want("Join of no domain", b.x.Join(dom, table0, p), api.ErrArg)
			b.want("Join of no domain with no frame", b.x.Join(dom, -1, p), api.ErrArg)
		}
		for _, none := range []*p2m.Map{nil, {}} {
			b.want("Join with no places", b.x.Join(0, table0, none), api.ErrArg)
			b.want("Join twice with no places", b.x.Join(1, table1, none), api.ErrArg)
			b.want("Join with no places and another's frame", b.x.Join(0, b1, none), api.ErrArg)
		}
		for _, mfn := range append(ends, -2, -1, size, b1, a1, free, hyper) {
			b.want("Join twice", b.x.Join(1, mfn, b.p[1]), api.ErrTwice)
		}
		for _, mfn := range append(ends, -2, -1, size, api.MaxFrames) {
			b.want("Join with no frame", b.x.Join(0, mfn, p), api.ErrArg)
		}
		b.want("Join with a free frame", b.x.Join(0, free, p), api.ErrFree)
		b.want("Join with another's frame", b.x.Join(0, b1, p), api.ErrOwner)
		b.want("Join with the hypervisor's frame", b.x.Join(0, hyper, p), api.ErrOwner)
		b.want("Join with a table of level 1", b.x.Join(0, a1, p), api.ErrType)
		b.want("Join with a table of level 2", b.x.Join(0, a2, p), api.ErrType)
		b.want("Leave: it has not joined", b.x.Leave(0), api.ErrNone)
	})
}

func TestLeave(t *testing.T) {
	b := makeBed(t)
	b.fill(a1)
	b.lay(0, 3, permitted(1, 1))
	b.lay(1, 4, permitted(0, 1))
	b.mapped(1, 0, 3, true, 0, api.OK)
	b.mapped(0, 1, 4, false, 0, api.OK)
	b.refused(func() {
		for _, dom := range noDomains {
			b.want("Leave of no domain", b.x.Leave(dom), api.ErrArg)
		}
		for dom := 3; dom < api.MaxDoms; dom++ {
			b.want("Leave of one that has not joined", b.x.Leave(dom), api.ErrNone)
		}
	})
	b.want("Leave", b.x.Leave(0), api.OK)
	b.wantFrame(table0, api.KNone, 0, 0)
	b.want("Leave twice", b.x.Leave(0), api.ErrNone)
	// Its maps and those of its frames stay.
	b.wantMaps(1, api.Mapped{Handle: 0, Caller: 1, Owner: 0, Ref: 3, Mfn: a1, Write: true})
	b.wantMaps(0, api.Mapped{Handle: 0, Caller: 0, Owner: 1, Ref: 4, Mfn: b1})
	b.wantForeign(1, 1, 0)
	b.wantFrame(a1, api.KWrite, 1, 1)
	b.wantFrame(b1, api.KNone, 0, 1)
	b.read(1, 0, 0, 2, filled(a1)[:2], api.OK)
	b.want("Write", b.x.Write(1, 0, 0, []byte{9}), api.OK)
	b.wantBytes(a1, 0, 9)
	b.read(0, 0, 0, 1, []byte{0}, api.OK)
	// It grants nothing any more, and may still map what others grant.
	b.mapped(1, 0, 3, true, 0, api.ErrArg)
	b.mapped(0, 1, 4, false, 1, api.OK)
	b.want("Revoke", b.x.Revoke(0, 4), api.ErrArg)
	b.want("Unmap", b.x.Unmap(1, 0), api.OK)
	b.wantFrame(a1, api.KNone, 0, 0)
	// What its frame held is still there when it joins again.
	b.want("Join", b.x.Join(0, table0, b.p[0]), api.OK)
	b.mapped(1, 0, 3, false, 0, api.OK)
}

// A map of an owner that has left and joined again is still one by its ref.
func TestMapsOutliveAJoin(t *testing.T) {
	b := makeBed(t)
	b.lay(0, 3, permitted(1, 1))
	b.mapped(1, 0, 3, true, 0, api.OK)
	b.want("Leave", b.x.Leave(0), api.OK)
	b.want("Join", b.x.Join(0, a2, b.p[0]), api.OK)
	b.want("Revoke", b.x.Revoke(0, 3), api.ErrBusy)
	b.want("Unmap", b.x.Unmap(1, 0), api.OK)
	b.want("Revoke", b.x.Revoke(0, 3), api.OK)
}

// P6.3

func TestMap(t *testing.T) {
	b := makeBed(t)
	b.lay(0, 0, permitted(1, 1))
	b.lay(0, 31, readOnly(permitted(1, 2)))
	b.lay(0, 7, permitted(7, 3))
	b.reads(1, func() { b.mapped(1, 0, 0, true, 0, api.OK) })
	b.wantFrame(a1, api.KWrite, 1, 1)
	b.reads(1, func() { b.mapped(1, 0, 31, false, 1, api.OK) })
	b.wantFrame(a2, api.KNone, 0, 1)
	b.mapped(1, 0, 0, false, 2, api.OK)
	b.wantFrame(a1, api.KWrite, 1, 2)
	b.mapped(1, 0, 0, true, 3, api.OK)
	b.wantFrame(a1, api.KWrite, 2, 3)
	// A caller need not have joined, and its handles are its own.
	b.mapped(7, 0, 7, true, 0, api.OK)
	b.wantMaps(1,
		api.Mapped{Handle: 0, Caller: 1, Owner: 0, Ref: 0, Mfn: a1, Write: true},
		api.Mapped{Handle: 1, Caller: 1, Owner: 0, Ref: 31, Mfn: a2},
		api.Mapped{Handle: 2, Caller: 1, Owner: 0, Ref: 0, Mfn: a1},
		api.Mapped{Handle: 3, Caller: 1, Owner: 0, Ref: 0, Mfn: a1, Write: true})
	b.wantMaps(7, api.Mapped{Handle: 0, Caller: 7, Owner: 0, Ref: 7, Mfn: a3, Write: true})
	b.wantMaps(0)
	b.wantForeign(5, 0, 0, 0, 0, 0, 0, 0)
}

// A domain may permit itself a place; that is a map of a frame of its own.
func TestMapOfItsOwn(t *testing.T) {
	b := makeBed(t)
	b.lay(0, 1, permitted(0, 0))
	b.mapped(0, 0, 1, true, 0, api.OK)
	b.wantFrame(table0, api.KWrite, 2, 2)
	b.wantForeign(1, 0)
}

func TestMapArguments(t *testing.T) {
	b := makeBed(t)
	b.lay(0, 0, permitted(1, 1))
	b.refused(func() {
		b.reads(0, func() {
			for _, dom := range noDomains {
				b.mapped(dom, 0, 0, true, 0, api.ErrArg)
				b.mapped(1, dom, 0, true, 0, api.ErrArg)
			}
			for dom := 3; dom < api.MaxDoms; dom++ {
				b.mapped(1, dom, 0, false, 0, api.ErrArg)
			}
			for _, ref := range noRefs {
				b.mapped(1, 0, ref, false, 0, api.ErrArg)
			}
		})
	})
}

func TestMapErrors(t *testing.T) {
	b := makeBed(t)
	b.m.Get(a3, 0, api.KL1)
	both := func(g api.Grant, reading, writing api.Errno) {
		t.Helper()
		b.lay(0, 5, g)
		b.refused(func() {
			if reading != api.OK {
				b.reads(1, func() { b.mapped(1, 0, 5, false, 0, reading) })
			}
			b.reads(1, func() { b.mapped(1, 0, 5, true, 0, writing) })
		})
	}
	both(partly(permitted(1, 1), 0, 256), api.ErrSub, api.ErrSub)
	both(partly(permitted(1, 1), 16, 8), api.ErrSub, api.ErrSub)
	both(readOnly(permitted(1, 1)), api.OK, api.ErrMode)
	// What comes first is told.
	both(partly(readOnly(permitted(2, 9)), 0, 1), api.ErrGrant, api.ErrGrant)
	both(partly(readOnly(permitted(1, 9)), 0, 1), api.ErrSub, api.ErrSub)
	both(readOnly(permitted(1, 9)), api.ErrGrant, api.ErrMode)
	both(readOnly(permitted(1, 3)), api.OK, api.ErrMode)
	// Places without a frame, and past the last one.
	for _, gpfn := range []int{4, 5, 6, 47, 48, 1 << 8, 1<<8 + 1, 1<<16 - 1} {
		both(permitted(1, gpfn), api.ErrGrant, api.ErrGrant)
	}
	// A page table may be mapped for reading alone.
	both(permitted(1, 3), api.OK, api.ErrType)
	b.mapped(1, 0, 5, false, 0, api.OK)
	b.wantFrame(a3, api.KL1, 1, 2)
}

func TestMapOfEntriesThatPermitNothing(t *testing.T) {
	b := makeBed(t)
	for _, l := range wrongEntries(1) {
		b.layBytes(0, 5, l...)
		b.refused(func() {
			b.reads(2, func() {
				b.mapped(1, 0, 5, false, 0, api.ErrGrant)
				b.mapped(1, 0, 5, true, 0, api.ErrGrant)
			})
			b.pulled(1, api.End{Grant: true, Ref: 5}, 1, nil, api.ErrGrant)
			b.pushed(1, api.End{Grant: true, Ref: 5}, []byte{1}, api.ErrGrant)
		})
	}
	b.layBytes(0, 5, 1, 0, 1, 0, 1, 0, 255, 255)
	b.mapped(1, 0, 5, true, 0, api.OK)
}

// What stands at a place may have become another's, the hypervisor's or free since, or be no frame at all.
func TestMapOfAFrameThatIsNotTheOwners(t *testing.T) {
	b := makeBed(t)
	b.p[0].Set(4, 255)
	b.p[0].Set(5, hyper)
	b.m.Give(a1, 1)
	b.m.Give(a2, 2)
	b.m.Free(a3)
	for gpfn := 1; gpfn < 6; gpfn++ {
		b.lay(0, 5, permitted(1, gpfn))
		b.refused(func() {
			b.mapped(1, 0, 5, true, 0, api.ErrGrant)
			b.mapped(1, 0, 5, false, 0, api.ErrGrant)
			b.pulled(1, api.End{Grant: true, Ref: 5}, 1, nil, api.ErrGrant)
			b.pushed(1, api.End{Grant: true, Ref: 5}, []byte{1}, api.ErrGrant)
		})
	}
	b.m.Give(a1, 0)
	b.lay(0, 5, permitted(1, 1))
	b.mapped(1, 0, 5, true, 0, api.OK)
}

func TestMaxMaps(t *testing.T) {
	b := makeBed(t)
	b.lay(0, 0, permitted(1, 1))
	b.lay(0, 1, permitted(2, 1))
	for handle := range api.MaxMaps {
		b.mapped(1, 0, 0, handle%2 == 0, handle, api.OK)
	}
	b.wantFrame(a1, api.KWrite, api.MaxMaps/2, api.MaxMaps)
	b.wantForeign(api.MaxMaps, 0, 0)
	b.refused(func() {
		// It is told ahead of the read, and behind the arguments.
		b.reads(0, func() {
			b.mapped(1, 0, 0, true, 0, api.ErrMaps)
			b.mapped(1, 0, 9, true, 0, api.ErrMaps)
			b.mapped(1, 0, 32, true, 0, api.ErrArg)
			b.mapped(1, 3, 0, true, 0, api.ErrArg)
		})
	})
	b.mapped(2, 0, 1, true, 0, api.OK)
	if l := b.x.Maps(1); len(l) != api.MaxMaps {
		t.Errorf("%d maps", len(l))
	}
	// The least handle that is not in use comes first.
	for _, handle := range []int{11, 3, 15} {
		b.want("Unmap", b.x.Unmap(1, handle), api.OK)
	}
	for _, handle := range []int{3, 11, 15} {
		b.mapped(1, 0, 0, true, handle, api.OK)
	}
	b.mapped(1, 0, 0, true, 0, api.ErrMaps)
}

func TestUnmap(t *testing.T) {
	b := makeBed(t)
	b.lay(0, 0, permitted(1, 1))
	b.mapped(1, 0, 0, true, 0, api.OK)
	b.mapped(1, 0, 0, false, 1, api.OK)
	b.refused(func() {
		for _, dom := range noDomains {
			b.want("Unmap of no domain", b.x.Unmap(dom, 0), api.ErrArg)
		}
		for _, handle := range append(ends, -1, 2, 15, 16) {
			b.want("Unmap of no map", b.x.Unmap(1, handle), api.ErrNone)
			b.want("Unmap of another's map", b.x.Unmap(0, handle), api.ErrNone)
		}
		b.want("Unmap of another's map", b.x.Unmap(0, 0), api.ErrNone)
		b.want("Unmap of another's map", b.x.Unmap(2, 1), api.ErrNone)
	})
	b.want("Unmap", b.x.Unmap(1, 0), api.OK)
	b.wantFrame(a1, api.KNone, 0, 1)
	b.wantMaps(1, api.Mapped{Handle: 1, Caller: 1, Owner: 0, Ref: 0, Mfn: a1})
	b.wantForeign(1, 0, 0)
	b.want("Unmap twice", b.x.Unmap(1, 0), api.ErrNone)
	b.want("Unmap", b.x.Unmap(1, 1), api.OK)
	b.wantFrame(a1, api.KNone, 0, 0)
	b.wantMaps(1)
	b.wantForeign(0, 0, 0)
	b.read(1, 0, 0, 1, nil, api.ErrNone)
}

func TestMapsAndForeignOfNone(t *testing.T) {
	b := makeBed(t)
	b.lay(0, 0, permitted(1, 1))
	b.mapped(1, 0, 0, true, 0, api.OK)
	for _, dom := range append(noDomains, 0, 2, 7) {
		if l := b.x.Maps(dom); len(l) != 0 {
			t.Errorf("Maps(%d) = %v", dom, l)
		}
	}
	for _, dom := range append(noDomains, 1, 2, 7) {
		if n := b.x.Foreign(dom); n != 0 {
			t.Errorf("Foreign(%d) = %d", dom, n)
		}
	}
	b.x.Maps(1)[0].Mfn = 99
	b.wantMaps(1, api.Mapped{Handle: 0, Caller: 1, Owner: 0, Ref: 0, Mfn: a1, Write: true})
}

// P6.4

func TestReadAndWrite(t *testing.T) {
	b := makeBed(t)
	b.fill(a1)
	b.fill(a2)
	b.lay(0, 0, permitted(1, 1))
	b.mapped(1, 0, 0, true, 0, api.OK)
	b.mapped(1, 0, 0, false, 1, api.OK)
	for handle := range 2 {
		for _, c := range [][2]int{{0, 256}, {0, 1}, {255, 1}, {100, 50}, {0, 0}, {256, 0}} {
			b.reads(1, func() { b.read(1, handle, c[0], c[1], filled(a1)[c[0]:c[0]+c[1]], api.OK) })
		}
	}
	l := []byte{1, 2, 3}
	b.reads(0, func() { b.want("Write", b.x.Write(1, 0, 253, l), api.OK) })
	l[0] = 9
	b.wantBytes(a1, 252, filled(a1)[252], 1, 2, 3)
	got, _ := b.x.Read(b.v, 1, 0, 253, 3)
	got[1] = 9
	b.read(1, 1, 252, 4, []byte{filled(a1)[252], 1, 2, 3}, api.OK)
	b.want("Write of a page", b.x.Write(1, 0, 0, filled(b1)), api.OK)
	b.wantBytes(a1, 0, filled(b1)...)
	b.refused(func() {
		b.want("Write of nothing", b.x.Write(1, 0, 256, nil), api.OK)
		b.want("Write of nothing", b.x.Write(1, 0, 0, []byte{}), api.OK)
	})
	b.wantBytes(a2, 0, filled(a2)...)
}

func TestReadErrors(t *testing.T) {
	b := makeBed(t)
	b.lay(0, 0, permitted(1, 1))
	b.mapped(1, 0, 0, true, 0, api.OK)
	b.refused(func() {
		b.reads(0, func() {
			for _, dom := range noDomains {
				b.read(dom, 0, 0, 1, nil, api.ErrArg)
				b.read(dom, 9, -1, -1, nil, api.ErrArg)
			}
			for _, handle := range append(ends, -1, 1, 16) {
				b.read(1, handle, 0, 1, nil, api.ErrNone)
				b.read(1, handle, -1, -1, nil, api.ErrNone)
			}
			b.read(0, 0, 0, 1, nil, api.ErrNone)
			for _, c := range outside {
				b.read(1, 0, c[0], c[1], nil, api.ErrRange)
			}
		})
	})
}

// outside are places and lengths that don't lie in a page.
var outside = [][2]int{
	{-1, 1}, {-1, 0}, {0, -1}, {256, -1}, {0, 257}, {1, 256}, {255, 2}, {256, 1}, {257, 0}, {257, -1},
	{math.MaxInt, 1}, {1, math.MaxInt}, {math.MaxInt, math.MaxInt}, {math.MaxInt, 0}, {0, math.MaxInt},
	{math.MinInt, 0}, {math.MinInt, math.MaxInt}, {math.MinInt, math.MinInt}, {math.MaxInt, math.MinInt}, {0, math.MinInt},
}

func TestWriteErrors(t *testing.T) {
	b := makeBed(t)
	b.lay(0, 0, permitted(1, 1))
	b.mapped(1, 0, 0, true, 0, api.OK)
	b.mapped(1, 0, 0, false, 1, api.OK)
	b.refused(func() {
		for _, dom := range noDomains {
			b.want("Write of no domain", b.x.Write(dom, 0, 0, []byte{1}), api.ErrArg)
		}
		for _, handle := range append(ends, -1, 2, 16) {
			b.want("Write of no map", b.x.Write(1, handle, -1, []byte{1}), api.ErrNone)
		}
		b.want("Write of another's map", b.x.Write(0, 0, 0, []byte{1}), api.ErrNone)
		for _, c := range outside {
			if n := c[1]; n >= 0 && n < 1000 {
				b.want("Write outside", b.x.Write(1, 0, c[0], make([]byte, n)), api.ErrRange)
				b.want("Write outside of one for reading", b.x.Write(1, 1, c[0], make([]byte, n)), api.ErrMode)
			}
		}
		b.want("Write of one for reading", b.x.Write(1, 1, 0, []byte{1}), api.ErrMode)
		b.want("Write of nothing of one for reading", b.x.Write(1, 1, 0, nil), api.ErrMode)
	})
}

// Whatever becomes of the entry, of the place and of the owner, a map lives until it is let go.
func TestALiveMapLives(t *testing.T) {
	b := makeBed(t)
	b.fill(a1)
	b.lay(0, 3, permitted(1, 1))
	b.mapped(1, 0, 3, true, 0, api.OK)
	for _, change := range []func(){
		func() { b.layBytes(0, 3, make([]byte, 8)...) },
		func() { b.lay(0, 3, readOnly(permitted(2, 2))) },
		func() { b.lay(0, 3, taken(1, 2)) },
		func() { b.layBytes(0, 3, 255, 255, 255, 255, 255, 255, 255, 255) },
		func() { b.p[0].Clear(1) },
		func() { b.p[0].Set(1, b2) },
		func() { b.x.Leave(0) },
		func() { b.x.Leave(1) },
		func() { b.x.Join(0, a2, b.p[1]) },
	} {
		change()
		b.read(1, 0, 4, 4, filled(a1)[4:8], api.OK)
		b.want("Write", b.x.Write(1, 0, 0, []byte{5}), api.OK)
		b.wantBytes(a1, 0, 5)
		b.m.Write(a1, 0, []byte{6})
		b.read(1, 0, 0, 1, []byte{6}, api.OK)
		b.want("Give", b.m.Give(a1, 2), api.ErrBusy)
		b.want("Free", b.m.Free(a1), api.ErrBusy)
	}
	b.want("Unmap", b.x.Unmap(1, 0), api.OK)
	b.want("Free", b.m.Free(a1), api.OK)
}
