package dom_test

import (
	"encoding/binary"
	"math"
	"testing"

	"tenement/api"
	"tenement/dom"
	"tenement/p2m"
	"tenement/pte"
)

// table is a page table's bytes, whose first entries name frames, writable.
func table(frames ...int) []byte {
	var l []byte
	for _, mfn := range frames {
		l = binary.LittleEndian.AppendUint32(l, uint32(mfn)*256+3)
	}
	return append(l, make([]byte, api.PageBytes-len(l))...)
}

// wantBuilt asks that a domain was just built of those frames, the last two of which are its tables.
func (b *bed) wantBuilt(n int, frames ...int) {
	b.t.Helper()
	size := len(frames) - 2
	top, low := frames[size], frames[size+1]
	b.dom(n, api.Dom{State: api.DomPaused, Size: size, Frames: size + 2, Grant: frames[0], Root: top}, api.OK)
	b.want("Live", b.h.Live(n), api.OK)
	b.owned(n, frames...)
	b.places(n, pairs(frames[:size]...)...)
	if is := b.h.Map(n).Size(); is != 48 {
		b.t.Errorf("%d places", is)
	}
	b.frame(frames[0], n, api.KWrite, 2, 2)
	b.bytes(frames[0], make([]byte, api.PageBytes))
	for _, mfn := range frames[1:size] {
		b.frame(mfn, n, api.KWrite, 1, 1)
		b.bytes(mfn, make([]byte, api.PageBytes))
	}
	b.frame(top, n, api.KL2, 1, 1)
	b.bytes(top, table(low))
	b.frame(low, n, api.KL1, 1, 1)
	b.bytes(low, table(frames[:size]...))
	if is := b.h.Mmu().Root(n); is != top {
		b.t.Errorf("Root(%d) = %d, not %d", n, is, top)
	}
	if l := b.h.Mmu().Pins(n); len(l) != 0 {
		b.t.Errorf("Pins(%d) = %v", n, l)
	}
}

func upTo(first, n int) []int {
	var l []int
	for i := range n {
		l = append(l, first+i)
	}
	return l
}

// P17.1

func TestNew(t *testing.T) {
	for n := 3; n <= api.MaxFrames; n++ {
		b := makeBed(t, n)
		if is := b.h.Machine().Size(); is != n {
			t.Fatalf("New(%d) has %d frames", n, is)
		}
		b.left(n - 2)
		b.owned(api.Hyper, 0, 1)
		b.frame(0, api.Hyper, api.KNone, 0, 0)
		b.frame(1, api.Hyper, api.KNone, 0, 0)
		b.frame(2, api.NoOwner, api.KNone, 0, 0)
		if b.h.Mmu().Machine() != b.h.Machine() {
			t.Error("the tables lie in another machine")
		}
	}
	b := makeBed(t, 20)
	for n := range api.MaxDoms {
		b.dom(n, api.Dom{}, api.ErrNone)
		b.want("Live", b.h.Live(n), api.ErrNone)
		if b.h.Map(n) != nil {
			t.Errorf("Map(%d) of no domain", n)
		}
	}
}

func TestNewOfTooFewAndTooMany(t *testing.T) {
	for _, n := range []int{math.MinInt, -256, -1, 0, 1, 2, api.MaxFrames + 1, math.MaxInt32, math.MaxInt} {
		if h, e := dom.New(n); h != nil || e != api.ErrArg {
			t.Errorf("New(%d) = %v, %v", n, h, e)
		}
	}
}

// Each size on a machine that is just great enough, and on one that is not.
func TestBuildEachSize(t *testing.T) {
	for size := 1; size <= api.MaxDomFrames; size++ {
		b := makeBed(t, size+4)
		b.built(size, 0, api.OK)
		b.wantBuilt(0, upTo(2, size+2)...)
		b.left(0)
		b = makeBed(t, size+3)
		b.same(func() { b.built(size, 0, api.ErrNoFrames) })
	}
}

func TestBuildOneBehindTheOther(t *testing.T) {
	b := makeBed(t, api.MaxFrames)
	at := 2
	for n := range api.MaxDoms {
		size := 3*n + 1
		b.built(size, n, api.OK)
		b.wantBuilt(n, upTo(at, size+2)...)
		at += size + 2
	}
	b.left(api.MaxFrames - at)
}

func TestBuildErrors(t *testing.T) {
	sizes := []int{math.MinInt, math.MinInt + 1, -2, -1, 0, api.MaxDomFrames + 1, math.MaxInt32, math.MaxInt - 1, math.MaxInt}
	// Nothing is free; all numbers are taken; both; neither.
	for _, b := range []*bed{makeBed(t, 5, 1), makeBed(t, 50, 1, 1, 1, 1, 1, 1, 1, 1), makeBed(t, 26, 1, 1, 1, 1, 1, 1, 1, 1), makeBed(t, 60)} {
		b.same(func() {
			for _, size := range sizes {
				b.built(size, 0, api.ErrBadSize)
			}
		})
	}
	b := makeBed(t, 28, 1, 1, 1, 1, 1, 1, 1, 1)
	b.same(func() {
		b.built(1, 0, api.ErrNoFrames)
		b.built(48, 0, api.ErrNoFrames)
	})
	b = makeBed(t, 30, 1, 1, 1, 1, 1, 1, 1, 1)
	b.same(func() {
		b.built(1, 0, api.ErrFull)
		b.built(2, 0, api.ErrFull)
		b.built(3, 0, api.ErrNoFrames)
	})
}

func TestBuildTakesTheLeastNumberAndFrames(t *testing.T) {
	b := makeBed(t, 60, 1, 2, 3, 1, 1, 1, 1, 1)
	for _, n := range []int{5, 1, 3} {
		b.destroy(n)
	}
	// Domain 1 had 5 to 8, 3 had 14 to 16, 5 had 20 to 22; 29 is the first that none had.
	b.built(4, 1, api.OK)
	b.wantBuilt(1, 5, 6, 7, 8, 14, 15)
	b.built(1, 3, api.OK)
	b.wantBuilt(3, 16, 20, 21)
	b.built(2, 5, api.OK)
	b.wantBuilt(5, 22, 29, 30, 31)
	b.same(func() { b.built(1, 0, api.ErrFull) })
}

// A number that is dying is not free yet.
func TestBuildPassesTheDyingBy(t *testing.T) {
	b := four(t)
	handle := b.mapped(1, 0, 2, false)
	b.destroy(0)
	b.built(1, 3, api.OK)
	b.want("Ungrant", b.h.Ungrant(1, handle), api.OK)
	b.built(1, 0, api.OK)
	b = makeBed(t, 40, 4, 1, 1, 1, 1, 1, 1, 1)
	b.h.Machine().Get(3, 0, api.KNone)
	b.destroy(0)
	b.same(func() { b.built(1, 0, api.ErrFull) })
}

// A frame that was used is handed on without what it was.
func TestBuildOfUsedFrames(t *testing.T) {
	b := four(t)
	full := make([]byte, api.PageBytes)
	for i := range full {
		full[i] = byte(i) | 1
	}
	for mfn := first(1); mfn < root(1); mfn++ {
		b.want("Write", b.h.Machine().Write(mfn, 0, full), api.OK)
	}
	b.destroy(1)
	b.built(2, 1, api.OK)
	b.wantBuilt(1, upTo(first(1), 4)...)
}

// The addresses of a new domain lead to its frames, for writing too, and no further.
func TestBuiltTablesLead(t *testing.T) {
	b := makeBed(t, 60, 48)
	d, _ := b.h.Dom(0)
	for gpfn := range 48 {
		mfn, off, e := pte.Walk(b.h.Machine(), d.Root, uint32(gpfn*256+9), true)
		if mfn != 2+gpfn || off != 9 || e != api.OK {
			t.Errorf("page %d: %d, %d, %v", gpfn, mfn, off, e)
		}
	}
	for _, va := range []uint32{48 * 256, 63 * 256, 64 * 256, 1<<20 - 1} {
		if _, _, e := pte.Walk(b.h.Machine(), d.Root, va, false); e != api.ErrAbsent {
			t.Errorf("address %x: %v", va, e)
		}
	}
}

// A new domain has joined, with the frame at place 0 and with its own map of places.
func TestBuiltHasJoined(t *testing.T) {
	b := four(t)
	p, _ := p2m.New(4)
	b.same(func() { b.want("Join", b.h.Grants().Join(1, first(1)+1, p), api.ErrTwice) })
	b.lay(1, 31, api.Grant{Kind: 1, Dom: 0, Gpfn: 40, Len: 256})
	if _, e := b.h.Grant(b.view(), 0, 1, 31, true); e != api.ErrGrant {
		t.Errorf("Grant of no frame: %v", e)
	}
	b.h.Map(1).Clear(3)
	b.h.Map(1).Set(40, first(1)+3)
	if n, e := b.h.Grant(b.view(), 0, 1, 31, true); n != 0 || e != api.OK || b.h.Grants().Maps(0)[0].Mfn != first(1)+3 {
		t.Errorf("Grant = %d, %v: %v", n, e, b.h.Grants().Maps(0))
	}
}

// A step of Build errs where somebody has joined as the number: all that was taken is free again.
func TestBuildGoesBack(t *testing.T) {
	b := four(t)
	b.destroy(1)
	m := b.h.Machine()
	mfn, _ := m.Alloc(1)
	top, _ := m.Alloc(1)
	p, _ := p2m.New(1)
	b.want("Join", b.h.Grants().Join(1, mfn, p), api.OK)
	b.want("Base", b.h.Mmu().Base(1, top), api.OK)
	b.want("Write", m.Write(mfn, 0, []byte("kept")), api.OK)
	b.same(func() {
		for size := 1; size <= 8; size++ {
			b.built(size, 0, api.ErrTwice)
		}
		b.built(9, 0, api.ErrNoFrames)
	})
	b.dom(1, api.Dom{}, api.ErrNone)
	b.want("Join", b.h.Grants().Join(1, mfn, p), api.ErrTwice)
	b.want("Leave", b.h.Grants().Leave(1), api.OK)
	b.want("Base", b.h.Mmu().Base(1, -1), api.OK)
	b.want("Free", m.Free(mfn), api.OK)
	b.want("Free", m.Free(top), api.OK)
	b.built(4, 1, api.OK)
	b.wantBuilt(1, upTo(first(1), 6)...)
}

// What somebody gave to a number ahead of its domain is that domain's, too.
func TestBuildOfANumberThatOwns(t *testing.T) {
	b := makeBed(t, 20)
	m := b.h.Machine()
	m.Alloc(0)
	top, _ := m.Alloc(0)
	b.want("Base", b.h.Mmu().Base(0, top), api.OK)
	b.built(2, 0, api.OK)
	b.dom(0, api.Dom{State: api.DomPaused, Size: 2, Frames: 6, Grant: 4, Root: 6}, api.OK)
	b.frame(top, 0, api.KNone, 0, 0)
	b.destroy(0)
	b.left(18)
	b.dom(0, api.Dom{}, api.ErrNone)
}
