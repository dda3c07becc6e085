package dom_test

import (
	"fmt"
	"math"
	"testing"

	"tenement/api"
	"tenement/p2m"
	"tenement/view"
)

// P17.3, P17.5

func TestDestroyFreesAll(t *testing.T) {
	for _, run := range []bool{false, true} {
		b := four(t)
		for mfn := first(1); mfn < root(1); mfn++ {
			b.want("Write", b.h.Machine().Write(mfn, 250, []byte("secret")), api.OK)
		}
		if run {
			b.want("Unpause", b.h.Unpause(1), api.OK)
		}
		b.destroy(1)
		b.left(12)
		b.freed(upTo(first(1), 6)...)
		b.owned(1)
		b.dom(1, api.Dom{}, api.ErrNone)
		if b.h.Mmu().Root(1) != -1 {
			t.Errorf("Root is %d", b.h.Mmu().Root(1))
		}
		b.owned(0, upTo(first(0), 6)...)
		b.owned(2, upTo(first(2), 6)...)
		b.want("Destroy", b.h.Destroy(1), api.ErrNone)
	}
}

func TestDestroyDropsPorts(t *testing.T) {
	b := four(t)
	x := b.h.Events()
	for n := range 5 {
		x.Alloc(0, 1)
		x.Bind(1, 0, n)
	}
	x.Alloc(1, 2)
	x.Virq(1, 3)
	x.Send(0, 0)
	x.Send(1, 1)
	x.Raise(1, 3)
	b.destroy(1)
	for n := range api.MaxPorts {
		if p, _ := x.Port(1, n); p != (api.Port{}) {
			t.Errorf("port %d is %+v", n, p)
		}
	}
	if x.Upcall(1) || !x.Upcall(0) {
		t.Error("the upcalls are not as they must be")
	}
	for n := range 5 {
		if p, _ := x.Port(0, n); p != (api.Port{Kind: api.PUnbound, Remote: 1, Pending: n == 1}) {
			t.Errorf("the peer %d is %+v", n, p)
		}
	}
}

// Of what a domain held itself nothing is left, also where it lingers.
func TestTheDyingHaveNothing(t *testing.T) {
	b := four(t)
	b.h.Events().Alloc(0, 1)
	b.want("Pin", b.h.Mmu().Pin(0, leaf(0), 1), api.OK)
	b.mapped(0, 2, 3, true)
	b.mapped(1, 0, 0, false)
	b.destroy(0)
	if p, _ := b.h.Events().Port(0, 0); p.Kind != api.PFree {
		t.Error("a port is left")
	}
	if len(b.h.Mmu().Pins(0)) != 0 || b.h.Mmu().Root(0) != -1 || len(b.h.Grants().Maps(0)) != 0 {
		t.Errorf("left are %v, %d, %v", b.h.Mmu().Pins(0), b.h.Mmu().Root(0), b.h.Grants().Maps(0))
	}
	// The frame at place 0 was its grant frame too; only domain 1's map refers to it still.
	b.frame(first(0), 0, api.KNone, 0, 1)
	b.owned(0, first(0))
	b.frame(first(2)+3, 2, api.KWrite, 1, 1)
	b.want("Revoke", b.h.Grants().Revoke(0, 0), api.ErrArg)
	if _, e := b.h.Grant(b.view(), 1, 0, 0, false); e != api.ErrArg {
		t.Errorf("Grant of the dying: %v", e)
	}
}

func TestDestroyDropsTables(t *testing.T) {
	b := four(t)
	x := b.h.Mmu()
	_, e := x.Update(0, []api.Update{{Table: leaf(0), Index: 2}, {Table: leaf(0), Index: 3}})
	b.want("Update", e, api.OK)
	b.want("Pin", x.Pin(0, first(0)+2, 1), api.OK)
	b.want("Pin", x.Pin(0, leaf(0), 1), api.OK)
	b.want("Pin", x.Pin(0, first(0)+3, 2), api.OK)
	_, e = x.Update(0, []api.Update{
		{Table: first(0) + 2, Index: 9, Value: uint32(first(0)+1)*256 + 3},
		{Table: first(0) + 2, Index: 10, Value: uint32(first(0)+2)*256 + 1},
		{Table: first(0) + 3, Index: 63, Value: uint32(first(0)+2)*256 + 1},
		{Table: root(0), Index: 5, Value: uint32(leaf(0))*256 + 1},
	})
	b.want("Update", e, api.OK)
	b.destroy(0)
	b.freed(upTo(first(0), 6)...)
	b.dom(0, api.Dom{}, api.ErrNone)
}

// All maps of a domain go with it: those of its own frames, of others', of one that is dying.
func TestDestroyUnmaps(t *testing.T) {
	b := four(t)
	b.mapped(0, 0, 2, true)
	b.mapped(0, 1, 1, false)
	b.mapped(0, 1, 1, true)
	b.mapped(0, 2, 1, false)
	b.mapped(0, 2, 2, true)
	b.want("Ungrant", b.h.Ungrant(0, 1), api.OK)
	b.destroy(2)
	b.owned(2, first(2)+1, first(2)+2)
	b.left(10)
	b.destroy(0)
	b.freed(upTo(first(0), 6)...)
	b.freed(upTo(first(2), 6)...)
	b.frame(first(1)+1, 1, api.KWrite, 1, 1)
	b.dom(0, api.Dom{}, api.ErrNone)
	b.dom(2, api.Dom{}, api.ErrNone)
	b.left(18)
}

func TestAsManyMapsAsMayBe(t *testing.T) {
	b := four(t)
	for n := range api.MaxMaps {
		if h := b.mapped(1, 0, n%4, n%2 == 0); h != n {
			t.Errorf("handle %d, not %d", h, n)
		}
	}
	b.destroy(0)
	b.owned(0, upTo(first(0), 4)...)
	b.destroy(1)
	b.left(18)
	b.dom(0, api.Dom{}, api.ErrNone)
}

// A frame that others map is neither free nor scrubbed until its last map goes; the others are at once.
func TestLinger(t *testing.T) {
	b := four(t)
	kept := first(0) + 1
	b.want("Write", b.h.Machine().Write(kept, 0, []byte("kept")), api.OK)
	one, two := b.mapped(1, 0, 1, true), b.mapped(2, 0, 1, false)
	three := b.mapped(2, 0, 3, false)
	b.destroy(0)
	b.left(10)
	b.dom(0, api.Dom{State: api.DomDying, Size: 4, Frames: 2, Grant: -1, Root: -1}, api.OK)
	b.places(0, api.Pair{Gpfn: 1, Mfn: kept}, api.Pair{Gpfn: 3, Mfn: first(0) + 3})
	b.freed(first(0), first(0)+2, root(0), leaf(0))
	b.frame(kept, 0, api.KWrite, 1, 2)
	b.same(func() {
		if n := b.h.Sweep(); n != 0 {
			t.Errorf("Sweep = %d", n)
		}
	})
	b.want("Write", b.h.Grants().Write(1, one, 1, []byte("i")), api.OK)
	b.want("Ungrant", b.h.Ungrant(1, one), api.OK)
	b.frame(kept, 0, api.KNone, 0, 1)
	if l, e := b.h.Grants().Read(b.view(), 2, two, 0, 4); string(l) != "kipt" || e != api.OK {
		t.Errorf("Read = %q, %v", l, e)
	}
	b.want("Ungrant", b.h.Ungrant(2, two), api.OK)
	b.freed(kept)
	b.places(0, api.Pair{Gpfn: 3, Mfn: first(0) + 3})
	b.dom(0, api.Dom{State: api.DomDying, Size: 4, Frames: 1, Grant: -1, Root: -1}, api.OK)
	b.want("Ungrant", b.h.Ungrant(2, three), api.OK)
	b.dom(0, api.Dom{}, api.ErrNone)
	b.left(12)
}

func TestGrantAsksWhetherTheCallerLives(t *testing.T) {
	b := inStates(t)
	b.lay(0, 5, api.Grant{Kind: 1, Dom: 2, Gpfn: 1, Len: 256})
	v := b.view()
	b.same(func() {
		for caller, e := range map[int]api.Errno{2: api.ErrDying, 3: api.ErrNone, 7: api.ErrNone, -1: api.ErrArg, 8: api.ErrArg, math.MinInt: api.ErrArg, math.MaxInt: api.ErrArg} {
			for _, v := range []*view.View{nil, new(view.View), v} {
				for _, owner := range []int{-1, 0, 1, 2, 8} {
					if n, ge := b.h.Grant(v, caller, owner, 5, true); n != 0 || ge != e {
						t.Errorf("Grant of caller %d and owner %d = %d, %v, not %v", caller, owner, n, ge, e)
					}
				}
			}
		}
		for _, caller := range []int{0, 1} {
			for _, v := range []*view.View{nil, new(view.View)} {
				if n, e := b.h.Grant(v, caller, 0, 5, false); n != 0 || e != api.ErrZero {
					t.Errorf("Grant without a view = %d, %v", n, e)
				}
			}
		}
	})
	if v.Reads() != 0 {
		t.Errorf("%d reads", v.Reads())
	}
}

// Grant answers what grant.Map answers, of paused and of running callers, by one read through the view.
func TestGrantIsMap(t *testing.T) {
	entries := []api.Grant{
		{Kind: 1, Dom: 1, Gpfn: 1, Len: 256},
		{Kind: 1, Dom: 1, Gpfn: 2, RO: true, Len: 256},
		{Kind: 1, Dom: 0, Gpfn: 1, Len: 256},
		{Kind: 2, Dom: 1, Gpfn: 1, Len: 256},
		{Kind: 1, Dom: 1, Gpfn: 1, Sub: true, Off: 3, Len: 9},
		{Kind: 1, Dom: 1, Gpfn: 4, Len: 256},
		{Kind: 1, Dom: 1, Gpfn: 41, Len: 256},
	}
	for _, run := range []bool{false, true} {
		b, c := four(t), four(t)
		for _, x := range []*bed{b, c} {
			if run {
				x.want("Unpause", x.h.Unpause(1), api.OK)
			}
			for ref, g := range entries {
				x.lay(0, ref, g)
			}
			x.h.Map(0).Set(41, leaf(0))
		}
		// The rewrite of the first entry is due at the third read.
		v := b.view(api.Poke{At: 2, Mfn: first(0), Bytes: make([]byte, 8)})
		w := c.view(api.Poke{At: 2, Mfn: first(0), Bytes: make([]byte, 8)})
		for _, write := range []bool{false, true} {
			for _, owner := range []int{0, 2, 3, 8, -1} {
				for _, ref := range []int{0, 0, 1, 2, 3, 4, 5, 6, 7, 31, 32, -1, 0} {
					n, e := b.h.Grant(v, 1, owner, ref, write)
					m, f := c.h.Grants().Map(w, 1, owner, ref, write)
					if n != m || e != f {
						t.Errorf("Grant(1, %d, %d, %v) = %d, %v, not %d, %v", owner, ref, write, n, e, m, f)
					}
				}
			}
		}
		if v.Reads() != w.Reads() || look(b.h) != look(c.h) {
			t.Error("Grant does not do what Map does")
		}
	}
}

func TestGrantOfAllMaps(t *testing.T) {
	b := four(t)
	for range api.MaxMaps {
		b.mapped(1, 0, 2, false)
	}
	b.same(func() {
		if n, e := b.h.Grant(b.view(), 1, 0, 2, false); n != 0 || e != api.ErrMaps {
			t.Errorf("Grant = %d, %v", n, e)
		}
	})
}

func TestUngrantErrors(t *testing.T) {
	b := inStates(t)
	b.same(func() {
		for _, caller := range noDomains {
			for _, handle := range []int{math.MinInt, -1, 0, 16, math.MaxInt} {
				b.want("Ungrant", b.h.Ungrant(caller, handle), api.ErrArg)
			}
		}
		for caller := range api.MaxDoms {
			for _, handle := range []int{math.MinInt, -1, 1, 15, 16, math.MaxInt} {
				b.want("Ungrant", b.h.Ungrant(caller, handle), api.ErrNone)
			}
		}
		b.want("Ungrant", b.h.Ungrant(2, 0), api.ErrNone)
	})
	b.want("Ungrant", b.h.Ungrant(0, 0), api.OK)
	b.same(func() { b.want("Ungrant", b.h.Ungrant(0, 0), api.ErrNone) })
}

// Ungrant asks nothing of the caller's state, and it sweeps with OK alone.
func TestUngrantSweeps(t *testing.T) {
	b := four(t)
	one, two := b.mapped(1, 0, 1, true), b.mapped(2, 0, 2, true)
	own := b.mapped(2, 2, 2, false)
	b.destroy(0)
	b.left(10)
	b.want("Unmap", b.h.Grants().Unmap(1, one), api.OK)
	b.left(10)
	b.want("Ungrant", b.h.Ungrant(1, one), api.ErrNone)
	b.want("Ungrant", b.h.Ungrant(8, 0), api.ErrArg)
	b.left(10)
	b.frame(first(0)+1, 0, api.KNone, 0, 0)
	// A map that has nothing to do with it sweeps as well.
	b.want("Ungrant", b.h.Ungrant(2, own), api.OK)
	b.left(11)
	b.want("Ungrant", b.h.Ungrant(2, two), api.OK)
	b.left(12)
	b.dom(0, api.Dom{}, api.ErrNone)
}

func TestUnpinErrors(t *testing.T) {
	b := inStates(t)
	b.want("Pin", b.h.Mmu().Pin(0, leaf(0), 1), api.OK)
	b.same(func() {
		for _, n := range noDomains {
			b.want("Unpin", b.h.Unpin(n, leaf(0)), api.ErrArg)
		}
		for n := range api.MaxDoms {
			for _, mfn := range []int{math.MinInt, -1, 0, 1, root(n % 3), root(0), leaf(1), 26, 256, math.MaxInt} {
				b.want(fmt.Sprint("Unpin of ", n), b.h.Unpin(n, mfn), api.ErrNone)
			}
		}
		b.want("Unpin", b.h.Unpin(1, leaf(0)), api.ErrNone)
	})
	b.want("Unpin", b.h.Unpin(0, leaf(0)), api.OK)
	b.frame(leaf(0), 0, api.KL1, 1, 1)
	b.same(func() { b.want("Unpin", b.h.Unpin(0, leaf(0)), api.ErrNone) })
}

// Unpin sweeps with OK alone; a table of the dying itself may be what goes.
func TestUnpinSweeps(t *testing.T) {
	b := four(t)
	handle := b.mapped(1, 0, 2, false)
	b.destroy(0)
	b.want("Pin", b.h.Mmu().Pin(0, first(0)+2, 2), api.OK)
	b.want("Ungrant", b.h.Ungrant(1, handle), api.OK)
	b.owned(0, first(0)+2)
	b.want("Unpin", b.h.Unpin(0, first(0)+1), api.ErrNone)
	b.want("Unpin", b.h.Unpin(0, first(0)+2), api.OK)
	b.freed(first(0) + 2)
	b.dom(0, api.Dom{}, api.ErrNone)

	b = four(t)
	handle = b.mapped(1, 0, 2, false)
	b.destroy(0)
	b.want("Pin", b.h.Mmu().Pin(2, leaf(2), 1), api.OK)
	b.want("Unmap", b.h.Grants().Unmap(1, handle), api.OK)
	b.want("Unpin", b.h.Unpin(1, leaf(2)), api.ErrNone)
	b.owned(0, first(0)+2)
	b.want("Unpin", b.h.Unpin(2, leaf(2)), api.OK)
	b.owned(0)
}

// Sweep frees of all dying domains, and of no others, what nobody refers to.
func TestSweep(t *testing.T) {
	b := four(t)
	m := b.h.Machine()
	one, two, three := b.mapped(2, 0, 1, true), b.mapped(2, 0, 2, false), b.mapped(2, 1, 1, false)
	b.destroy(0)
	b.destroy(1)
	mfn, _ := m.Alloc(2) // Nobody refers to that one, but its owner lives.
	n, _ := m.Alloc(6)   // That one's owner is no domain.
	for _, handle := range []int{one, two, three} {
		b.want("Unmap", b.h.Grants().Unmap(2, handle), api.OK)
	}
	b.want("Get", m.Get(first(0)+2, 0, api.KWrite), api.OK)
	b.owned(0, first(0)+1, first(0)+2)
	b.owned(1, first(1)+1)
	if n := b.h.Sweep(); n != 2 {
		t.Errorf("Sweep = %d", n)
	}
	b.freed(first(0)+1, first(1)+1)
	b.places(0, api.Pair{Gpfn: 2, Mfn: first(0) + 2})
	b.dom(1, api.Dom{}, api.ErrNone)
	b.dom(0, api.Dom{State: api.DomDying, Size: 4, Frames: 1, Grant: -1, Root: -1}, api.OK)
	b.frame(mfn, 2, api.KNone, 0, 0)
	b.frame(n, 6, api.KNone, 0, 0)
	b.want("Put", m.Put(first(0)+2, api.KWrite), api.OK)
	if n := b.h.Sweep(); n != 1 {
		t.Errorf("Sweep = %d", n)
	}
	b.dom(0, api.Dom{}, api.ErrNone)
	if n := b.h.Sweep(); n != 0 {
		t.Errorf("Sweep = %d", n)
	}
}

// A domain that is dying is gone at the next sweep also if somebody else has freed the last of its frames.
func TestSweepOfNoFrames(t *testing.T) {
	b := four(t)
	handle := b.mapped(1, 0, 1, false)
	b.destroy(0)
	b.want("Unmap", b.h.Grants().Unmap(1, handle), api.OK)
	b.want("Free", b.h.Machine().Free(first(0)+1), api.OK)
	b.want("Live", b.h.Live(0), api.ErrDying)
	if n := b.h.Sweep(); n != 0 {
		t.Errorf("Sweep = %d", n)
	}
	b.want("Live", b.h.Live(0), api.ErrNone)
}

// A frame that is freed stands nowhere, in no domain's map.
func TestAFreedFrameStandsNowhere(t *testing.T) {
	b := four(t)
	b.want("Set", b.h.Map(1).Set(9, first(0)+1), api.OK)
	b.want("Set", b.h.Map(2).Set(47, first(0)+3), api.OK)
	handle := b.mapped(2, 0, 3, false)
	b.destroy(0)
	b.places(1, pairs(8, 9, 10, 11)...)
	b.places(2, append(pairs(14, 15, 16, 17), api.Pair{Gpfn: 47, Mfn: first(0) + 3})...)
	b.want("Ungrant", b.h.Ungrant(2, handle), api.OK)
	b.places(2, pairs(14, 15, 16, 17)...)
}

// Two domains that map one another: the one that goes first lingers, and goes with the other.
func TestOneMapsTheOther(t *testing.T) {
	b := four(t)
	b.mapped(0, 1, 0, true)
	b.mapped(1, 0, 0, true)
	b.mapped(1, 2, 3, true)
	b.destroy(2)
	b.destroy(0)
	b.want("Live", b.h.Live(0), api.ErrDying)
	b.want("Live", b.h.Live(2), api.ErrDying)
	b.frame(first(1), 1, api.KWrite, 2, 2)
	b.destroy(1)
	b.left(24)
	for n := range 3 {
		b.want("Live", b.h.Live(n), api.ErrNone)
	}
}

// A domain may have left ahead of its end, and joined with another frame.
func TestDestroyOfOneThatHasLeft(t *testing.T) {
	b := four(t)
	b.want("Leave", b.h.Grants().Leave(0), api.OK)
	b.destroy(0)
	b.left(12)
	b.want("Leave", b.h.Grants().Leave(1), api.OK)
	p, _ := p2m.New(3)
	b.want("Join", b.h.Grants().Join(1, first(1)+2, p), api.OK)
	b.destroy(1)
	b.left(18)
	b.want("Leave", b.h.Grants().Leave(1), api.ErrNone)
}

// P17.5: whoever builds and destroys, all frames come back.
func TestBuildAndDestroyOverAndOver(t *testing.T) {
	b := makeBed(t, 40)
	for size := range 300 {
		b.built(size%36+1, 0, api.OK)
		b.wantBuilt(0, upTo(2, size%36+3)...)
		b.destroy(0)
		b.left(38)
	}
	b.freed(upTo(2, 38)...)
}
