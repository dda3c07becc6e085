package grant_test

import (
	"math"
	"testing"

	"tenement/api"
	"tenement/p2m"
)

// at is an end of domain 0's grants.
func at(ref, off int) api.End { return api.End{Grant: true, Ref: ref, Off: off} }

// place is an end at a place of the caller.
func place(gpfn, off int) api.End { return api.End{Gpfn: gpfn, Off: off} }

// P6.5

func TestPull(t *testing.T) {
	b := makeBed(t)
	b.fill(a1)
	b.fill(b1)
	b.lay(0, 0, permitted(1, 1))
	b.lay(0, 1, readOnly(permitted(1, 1)))
	b.lay(0, 31, partly(permitted(1, 1), 16, 8))
	b.lay(0, 4, partly(readOnly(permitted(1, 1)), 255, 1))
	b.lay(0, 5, partly(permitted(1, 1), 0, 256))
	b.lay(0, 6, permitted(7, 1))
	for _, c := range []struct{ ref, off, n, first int }{
		{0, 0, 256, 0}, {0, 255, 1, 255}, {0, 100, 20, 100}, {0, 0, 0, 0}, {0, 256, 0, 0},
		{1, 0, 256, 0}, {1, 3, 4, 3},
		{31, 0, 8, 16}, {31, 7, 1, 23}, {31, 2, 3, 18}, {31, 8, 0, 0}, {31, 0, 0, 0},
		{4, 0, 1, 255}, {4, 1, 0, 0}, {5, 0, 256, 0}, {5, 200, 56, 200},
	} {
		b.reads(2, func() { b.pulled(1, at(c.ref, c.off), c.n, filled(a1)[c.first:c.first+c.n], api.OK) })
	}
	for _, c := range [][2]int{{0, 256}, {255, 1}, {3, 4}, {0, 0}, {256, 0}} {
		b.reads(1, func() { b.pulled(1, place(1, c[0]), c[1], filled(b1)[c[0]:c[0]+c[1]], api.OK) })
	}
	// Of a grant the place counts for nothing, and of a place domain and ref; a caller of grants need not have joined.
	b.pulled(1, api.End{Grant: true, Gpfn: 99}, 2, filled(a1)[:2], api.OK)
	b.pulled(1, api.End{Dom: -5, Ref: 99, Gpfn: 1}, 2, filled(b1)[:2], api.OK)
	b.pulled(7, at(6, 0), 2, filled(a1)[:2], api.OK)
	for mfn := range size {
		if f, _ := b.m.Frame(mfn); f.Total > 1 {
			t.Errorf("frame %d: %+v", mfn, f)
		}
	}
	got, _ := b.x.Pull(b.v, 1, at(0, 0), 3)
	got[0]++
	b.wantBytes(a1, 0, filled(a1)...)
}

func TestPush(t *testing.T) {
	b := makeBed(t)
	b.lay(0, 0, permitted(1, 1))
	b.lay(0, 31, partly(permitted(1, 1), 16, 8))
	page := filled(a1)
	b.reads(1, func() { b.pushed(1, at(0, 0), page, api.OK) })
	b.wantBytes(a1, 0, page...)
	for _, c := range []struct{ ref, off, n, first int }{
		{0, 255, 1, 255}, {0, 3, 4, 3}, {0, 256, 0, 0}, {31, 0, 8, 16}, {31, 7, 1, 23}, {31, 2, 3, 18}, {31, 8, 0, 0},
	} {
		l := filled(c.ref + c.first)[:c.n]
		b.reads(1, func() { b.pushed(1, at(c.ref, c.off), l, api.OK) })
		copy(page[c.first:], l)
		b.wantBytes(a1, 0, page...)
	}
	b.reads(0, func() {
		b.pushed(1, place(2, 250), []byte("abcdef"), api.OK)
		b.pushed(1, place(2, 256), nil, api.OK)
		b.pushed(1, place(2, 0), []byte{7}, api.OK)
	})
	b.wantBytes(b2, 250, []byte("abcdef")...)
	b.wantBytes(b2, 0, 7, 0)
	b.wantFrame(a1, api.KNone, 0, 0)
	b.wantFrame(b2, api.KNone, 0, 0)
	// What was handed in is neither changed nor kept.
	l := []byte{1, 2, 3}
	b.pushed(1, place(2, 0), l, api.OK)
	l[0] = 9
	b.wantBytes(b2, 0, 1, 2, 3)
}

// both asks the same of Pull and of Push, and that neither reads so often, or changes anything.
func (b *bed) both(caller int, a api.End, n int, e api.Errno, reads int) {
	b.t.Helper()
	b.refused(func() {
		b.reads(reads, func() { b.pulled(caller, a, n, nil, e) })
		if n >= 0 && n < 1000 {
			b.reads(reads, func() { b.pushed(caller, a, make([]byte, n), e) })
		}
	})
}

func TestEndArguments(t *testing.T) {
	b := makeBed(t)
	b.fill(a1)
	b.lay(0, 0, permitted(1, 1))
	for _, dom := range noDomains {
		b.both(dom, at(0, 0), 1, api.ErrArg, 0)
		b.both(dom, place(1, 0), 1, api.ErrArg, 0)
		b.both(1, api.End{Grant: true, Dom: dom}, 1, api.ErrArg, 0)
	}
	for dom := 3; dom < api.MaxDoms; dom++ {
		b.both(1, api.End{Grant: true, Dom: dom}, 1, api.ErrArg, 0)
		b.both(dom, place(1, 0), 1, api.ErrArg, 0)
		b.both(dom, place(-1, 300), 1, api.ErrArg, 0)
	}
	for _, ref := range noRefs {
		b.both(1, at(ref, 0), 1, api.ErrArg, 0)
	}
	for _, n := range []int{math.MinInt, -1} {
		b.both(1, at(0, n), 1, api.ErrArg, 0)
		b.both(1, place(1, n), 1, api.ErrArg, 0)
		b.both(1, place(9, n), 1, api.ErrArg, 0)
		b.pulled(1, at(0, 0), n, nil, api.ErrArg)
		b.pulled(1, place(5, 256), n, nil, api.ErrArg)
	}
}

func TestEndErrors(t *testing.T) {
	b := makeBed(t)
	b.fill(a1)
	b.lay(0, 0, permitted(1, 1))
	b.lay(0, 1, partly(permitted(1, 1), 16, 8))
	b.lay(0, 2, permitted(2, 1))
	for gpfn := 3; gpfn < places; gpfn++ {
		b.both(1, place(gpfn, 0), 1, api.ErrNone, 0)
		b.both(1, place(gpfn, 300), 1, api.ErrNone, 0)
	}
	for _, gpfn := range append(ends, -1, places, 48) {
		b.both(1, place(gpfn, 300), 1, api.ErrArg, 0)
	}
	for _, c := range outside {
		if c[0] >= 0 && c[1] >= 0 {
			b.both(1, at(0, c[0]), c[1], api.ErrRange, 1)
			b.both(1, place(1, c[0]), c[1], api.ErrRange, 0)
			b.both(1, at(2, c[0]), c[1], api.ErrGrant, 1)
		}
	}
	for _, c := range [][2]int{{0, 9}, {1, 8}, {8, 1}, {9, 0}, {0, 256}, {240, 1}, {math.MaxInt, 0}, {math.MaxInt, 1}, {1, math.MaxInt}} {
		b.both(1, at(1, c[0]), c[1], api.ErrRange, 1)
	}
	for _, gpfn := range []int{4, 5, 6, 1 << 8, 1<<16 - 1} {
		b.lay(0, 3, permitted(1, gpfn))
		b.both(1, at(3, 300), 1, api.ErrGrant, 1)
		b.lay(0, 3, partly(permitted(1, gpfn), 0, 1))
		b.both(1, at(3, 0), 1, api.ErrGrant, 1)
	}
}

func TestPushErrors(t *testing.T) {
	b := makeBed(t)
	b.lay(0, 0, readOnly(permitted(1, 1)))
	b.lay(0, 1, partly(readOnly(permitted(1, 1)), 16, 8))
	b.lay(0, 2, permitted(1, 2))
	b.lay(0, 3, readOnly(permitted(1, 2)))
	b.lay(0, 4, readOnly(permitted(1, 5)))
	b.lay(0, 5, readOnly(permitted(2, 2)))
	for _, kind := range []int{api.KL1, api.KL2} {
		b.want("Get", b.m.Get(a2, 0, kind), api.OK)
		b.want("Get", b.m.Get(b1, 1, kind), api.OK)
		b.refused(func() {
			b.pushed(1, at(0, 0), []byte{1}, api.ErrMode)
			b.pushed(1, at(0, 0), nil, api.ErrMode)
			b.pushed(1, at(0, 300), []byte{1}, api.ErrMode)
			b.pushed(1, at(1, 0), []byte{1}, api.ErrMode)
			b.pushed(1, at(1, 8), []byte{1}, api.ErrMode)
			b.pushed(1, at(3, 0), []byte{1}, api.ErrMode)
			b.pushed(1, at(4, 0), []byte{1}, api.ErrGrant)
			b.pushed(1, at(5, 0), []byte{1}, api.ErrGrant)
			b.pushed(1, at(2, 0), []byte{1}, api.ErrType)
			b.pushed(1, at(2, 0), nil, api.ErrType)
			b.pushed(1, at(2, 256), []byte{1}, api.ErrRange)
			b.pushed(1, place(1, 0), []byte{1}, api.ErrType)
			b.pushed(1, place(1, 0), nil, api.ErrType)
			b.pushed(1, place(1, 256), []byte{1}, api.ErrRange)
		})
		// Both may still be read.
		b.pulled(1, at(2, 0), 1, []byte{0}, api.OK)
		b.pulled(1, place(1, 0), 1, []byte{0}, api.OK)
		b.m.Put(a2, kind)
		b.m.Put(b1, kind)
	}
	for _, kind := range []int{api.KNone, api.KWrite} {
		b.m.Get(a2, 0, kind)
		b.pushed(1, at(2, 0), []byte{1}, api.OK)
		b.m.Get(b1, 1, kind)
		b.pushed(1, place(1, 0), []byte{1}, api.OK)
	}
}

func TestCopy(t *testing.T) {
	b := makeBed(t)
	b.fill(a1)
	b.fill(b1)
	b.lay(0, 0, partly(readOnly(permitted(1, 1)), 16, 8))
	b.lay(0, 1, partly(permitted(1, 2), 100, 8))
	b.lay(0, 2, permitted(1, 1))
	b.lay(2, 1, permitted(1, 1))
	b.reads(2, func() { b.want("Copy", b.x.Copy(b.v, 1, at(0, 2), place(2, 4), 6), api.OK) })
	b.wantBytes(b2, 3, append(append([]byte{0}, filled(a1)[18:24]...), 0)...)
	b.reads(2, func() { b.want("Copy", b.x.Copy(b.v, 1, place(1, 250), at(1, 2), 6), api.OK) })
	b.wantBytes(a2, 101, append(append([]byte{0}, filled(b1)[250:]...), 0)...)
	b.reads(3, func() {
		b.want("Copy", b.x.Copy(b.v, 1, at(2, 0), api.End{Grant: true, Dom: 2, Ref: 1}, 256), api.OK)
	})
	b.wantBytes(c1, 0, filled(a1)...)
	b.reads(1, func() { b.want("Copy", b.x.Copy(b.v, 1, place(1, 0), place(2, 0), 256), api.OK) })
	b.wantBytes(b2, 0, filled(b1)...)
	// Both ends may be of one frame, and lie over one another.
	b.want("Copy", b.x.Copy(b.v, 1, place(1, 0), place(1, 10), 100), api.OK)
	b.wantBytes(b1, 0, append(filled(b1)[:10:10], filled(b1)[:100]...)...)
	b.reads(3, func() { b.want("Copy", b.x.Copy(b.v, 1, at(2, 100), at(2, 90), 50), api.OK) })
	b.wantBytes(a1, 90, filled(a1)[100:150]...)
	b.refused(func() { b.want("Copy of nothing", b.x.Copy(b.v, 1, at(2, 256), place(1, 256), 0), api.OK) })
}

func TestCopyErrors(t *testing.T) {
	b := makeBed(t)
	b.fill(a1)
	b.fill(b1)
	b.lay(0, 0, permitted(1, 1))
	b.lay(0, 1, readOnly(permitted(1, 1)))
	b.lay(0, 2, permitted(2, 1))
	b.lay(0, 3, partly(permitted(1, 1), 0, 8))
	b.m.Get(b2, 1, api.KL1)
	for _, c := range []struct {
		from, to api.End
		n        int
		e        api.Errno
		reads    int
	}{
		{at(0, 0), place(1, 0), -1, api.ErrArg, 0},
		{at(0, -1), place(1, 0), 1, api.ErrArg, 0},
		{at(0, 0), place(1, -1), 1, api.ErrArg, 2},
		{at(2, 0), place(1, -1), 1, api.ErrGrant, 1},
		{at(0, 256), at(2, 0), 1, api.ErrRange, 1},
		{place(3, 0), at(2, 0), 1, api.ErrNone, 0},
		{at(0, 0), at(1, 0), 1, api.ErrMode, 3},
		{at(0, 0), at(2, 0), 1, api.ErrGrant, 3},
		{at(0, 0), at(32, 0), 1, api.ErrArg, 2},
		{at(0, 0), at(3, 0), 9, api.ErrRange, 3},
		{at(3, 0), at(0, 0), 9, api.ErrRange, 1},
		{at(0, 0), place(4, 0), 1, api.ErrNone, 2},
		{at(0, 0), place(2, 0), 1, api.ErrType, 2},
		{place(1, 0), place(1, 256), 1, api.ErrRange, 1},
	} {
		b.refused(func() {
			b.reads(c.reads, func() {
				if e := b.x.Copy(b.v, 1, c.from, c.to, c.n); e != c.e {
					t.Errorf("Copy(%+v, %+v, %d): %v, not %v", c.from, c.to, c.n, e, c.e)
				}
			})
		})
	}
	b.want("Copy of no domain", b.x.Copy(b.v, 8, at(0, 0), at(0, 0), 1), api.ErrArg)
	b.want("Copy of one that has not joined", b.x.Copy(b.v, 3, place(0, 0), place(0, 0), 1), api.ErrArg)
}

// P6.6

func TestTransfer(t *testing.T) {
	b := makeBed(t)
	b.fill(b1)
	b.lay(0, 31, taken(1, 4))
	b.reads(1, func() { b.want("Transfer", b.x.Transfer(b.v, 1, 1, 0, 31), api.OK) })
	if f, _ := b.m.Frame(b1); f != (api.Frame{Owner: 0}) {
		t.Errorf("the frame: %+v", f)
	}
	b.wantBytes(b1, 0, filled(b1)...)
	if mfn, e := b.p[0].Get(4); mfn != b1 || e != api.OK {
		t.Errorf("the new place: %d, %v", mfn, e)
	}
	if _, e := b.p[1].Get(1); e != api.ErrNone {
		t.Errorf("the old place: %v", e)
	}
	if _, e := b.p[1].Find(b1); e != api.ErrNone {
		t.Errorf("the caller's other places: %v", e)
	}
	b.wantBytes(table0, 8*31, packed(t, taken(1, 4))...)
	// Now it is the other one's, who may grant it and hand it back.
	b.refused(func() { b.want("Transfer again", b.x.Transfer(b.v, 1, 1, 0, 31), api.ErrNone) })
	b.refused(func() { b.want("Transfer to a place that is taken", b.x.Transfer(b.v, 1, 2, 0, 31), api.ErrTaken) })
	b.lay(0, 0, permitted(1, 4))
	b.pulled(1, at(0, 0), 256, filled(b1), api.OK)
	b.lay(1, 2, taken(0, 1))
	b.want("Transfer back", b.x.Transfer(b.v, 0, 4, 1, 2), api.OK)
	if mfn, e := b.p[1].Get(1); mfn != b1 || e != api.OK {
		t.Errorf("the place: %d, %v", mfn, e)
	}
	// An entry that takes a frame may be RO and of a part: neither counts for anything.
	b.lay(0, 3, partly(readOnly(taken(1, 4)), 16, 8))
	b.want("Transfer", b.x.Transfer(b.v, 1, 1, 0, 3), api.OK)
}

func TestTransferArguments(t *testing.T) {
	b := makeBed(t)
	b.lay(0, 0, taken(1, 4))
	b.lay(1, 0, taken(1, 4))
	b.refused(func() {
		b.reads(0, func() {
			for _, dom := range append(noDomains, 3, 4, 5, 6, 7) {
				b.want("Transfer of none", b.x.Transfer(b.v, dom, 1, 0, 0), api.ErrArg)
				b.want("Transfer to none", b.x.Transfer(b.v, 1, 1, dom, 0), api.ErrArg)
				b.want("Transfer of none to itself", b.x.Transfer(b.v, dom, 1, dom, 0), api.ErrArg)
			}
			b.want("Transfer to itself", b.x.Transfer(b.v, 1, 1, 1, 0), api.ErrArg)
			for _, ref := range noRefs {
				b.want("Transfer by no ref", b.x.Transfer(b.v, 1, 1, 0, ref), api.ErrArg)
				b.want("Transfer by no ref of no place", b.x.Transfer(b.v, 1, 5, 0, ref), api.ErrArg)
			}
			for _, gpfn := range append(ends, -1, places, 48) {
				b.want("Transfer of no place", b.x.Transfer(b.v, 1, gpfn, 0, 0), api.ErrArg)
			}
			for gpfn := 3; gpfn < places; gpfn++ {
				b.want("Transfer of a place without a frame", b.x.Transfer(b.v, 1, gpfn, 0, 0), api.ErrNone)
			}
		})
	})
}

func TestTransferErrors(t *testing.T) {
	b := makeBed(t)
	b.refused(func() {
		for _, l := range append(wrongEntries(2), packed(t, permitted(1, 4))) {
			b.layBytes(0, 5, l...)
			b.reads(1, func() { b.want("Transfer by a wrong entry", b.x.Transfer(b.v, 1, 1, 0, 5), api.ErrGrant) })
		}
		for gpfn, e := range map[int]api.Errno{0: api.ErrTaken, 3: api.ErrTaken, 6: api.ErrArg, 260: api.ErrArg, 1<<16 - 1: api.ErrArg} {
			b.lay(0, 5, taken(1, gpfn))
			b.reads(1, func() { b.want("Transfer to a wrong place", b.x.Transfer(b.v, 1, 1, 0, 5), e) })
		}
		b.layBytes(0, 5, make([]byte, 8)...)
	})
	// A frame that is held, in whatever way; that is told ahead of the read.
	b.refused(func() {
		for kind := api.KNone; kind <= api.KL2; kind++ {
			b.m.Get(b1, 1, kind)
			b.reads(0, func() { b.want("Transfer of a busy frame", b.x.Transfer(b.v, 1, 1, 0, 5), api.ErrBusy) })
			b.m.Put(b1, kind)
		}
		b.want("Transfer of the grant frame", b.x.Transfer(b.v, 1, 0, 0, 5), api.ErrBusy)
	})
	b.p[0].Set(5, b2)
	b.lay(0, 5, taken(1, 4))
	b.refused(func() {
		b.want("Transfer of a frame that stands there already", b.x.Transfer(b.v, 1, 2, 0, 5), api.ErrTwice)
	})
}

func TestTransferOfAFrameThatIsNotTheCallers(t *testing.T) {
	b := makeBed(t)
	b.lay(0, 5, taken(1, 4))
	for gpfn, mfn := range map[int]int{3: 255, 4: hyper, 5: c1} {
		b.p[1].Set(gpfn, mfn)
	}
	b.m.Give(b1, 0)
	b.m.Free(b2)
	b.m.Get(c1, 2, api.KNone)
	b.refused(func() {
		b.reads(0, func() {
			for gpfn := 1; gpfn < places; gpfn++ {
				b.want("Transfer of another's frame", b.x.Transfer(b.v, 1, gpfn, 0, 5), api.ErrOwner)
			}
		})
	})
}

// Two domains may have one map of places: there a frame stands already where it is to stand.
func TestTransferWithinOneMap(t *testing.T) {
	b := makeBed(t)
	b.x.Leave(0)
	b.x.Join(0, table0, b.p[1])
	b.lay(0, 5, taken(1, 4))
	b.refused(func() { b.want("Transfer", b.x.Transfer(b.v, 1, 1, 0, 5), api.ErrTwice) })
}

func TestRevoke(t *testing.T) {
	b := makeBed(t)
	b.fill(table0)
	b.lay(0, 0, permitted(1, 1))
	b.lay(0, 31, permitted(1, 1))
	b.lay(1, 31, permitted(0, 1))
	b.mapped(1, 0, 0, true, 0, api.OK)
	b.mapped(1, 0, 0, false, 1, api.OK)
	b.refused(func() {
		for _, dom := range append(noDomains, 3, 7) {
			b.want("Revoke of none", b.x.Revoke(dom, 0), api.ErrArg)
		}
		for _, ref := range noRefs {
			b.want("Revoke of no ref", b.x.Revoke(0, ref), api.ErrArg)
		}
		b.want("Revoke of a live one", b.x.Revoke(0, 0), api.ErrBusy)
	})
	// Another ref of that owner, and that ref of another owner, are no reason.
	b.want("Revoke", b.x.Revoke(0, 31), api.OK)
	b.wantBytes(table0, 8*31, make([]byte, 8)...)
	b.wantBytes(table0, 8*30, filled(table0)[8*30:8*31]...)
	b.want("Revoke", b.x.Revoke(1, 0), api.OK)
	b.want("Unmap", b.x.Unmap(1, 0), api.OK)
	b.refused(func() { b.want("Revoke", b.x.Revoke(0, 0), api.ErrBusy) })
	b.want("Unmap", b.x.Unmap(1, 1), api.OK)
	b.want("Revoke", b.x.Revoke(0, 0), api.OK)
	b.wantBytes(table0, 0, append(make([]byte, 8), filled(table0)[8:16]...)...)
	b.mapped(1, 0, 0, true, 0, api.ErrGrant)
	b.want("Revoke of nothing", b.x.Revoke(0, 0), api.OK)
	b.wantBytes(table1, 8*31, packed(t, permitted(0, 1))...)
}

// An entry that was written over since is still the one that a map was made by; one of the same bytes elsewhere is not.
func TestRevokeGoesByRefs(t *testing.T) {
	b := makeBed(t)
	b.lay(0, 2, permitted(1, 1))
	b.lay(0, 3, permitted(1, 1))
	b.mapped(1, 0, 2, true, 0, api.OK)
	b.layBytes(0, 2, make([]byte, 8)...)
	b.want("Revoke", b.x.Revoke(0, 2), api.ErrBusy)
	b.want("Revoke", b.x.Revoke(0, 3), api.OK)
	// Copies leave no map.
	b.lay(0, 4, permitted(1, 1))
	b.pulled(1, at(4, 0), 1, []byte{0}, api.OK)
	b.want("Revoke", b.x.Revoke(0, 4), api.OK)
}

// The places that a domain joined with are looked at when they are asked for.
func TestPlacesAreKeptAsAnObject(t *testing.T) {
	b := makeBed(t)
	p, _ := p2m.New(48)
	b.x.Leave(0)
	b.want("Join", b.x.Join(0, table0, p), api.OK)
	b.lay(0, 0, permitted(1, 47))
	b.mapped(1, 0, 0, true, 0, api.ErrGrant)
	p.Set(47, a1)
	b.mapped(1, 0, 0, true, 0, api.OK)
	p.Clear(47)
	p.Set(47, a2)
	b.pulled(0, place(47, 0), 1, []byte{0}, api.OK)
	b.mapped(1, 0, 0, true, 1, api.OK)
	b.wantFrame(a2, api.KWrite, 1, 1)
}
