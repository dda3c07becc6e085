package dom_test

import (
	"bytes"
	"encoding/binary"
	"math"
	"slices"
	"testing"

	"tenement/api"
	"tenement/grant"
	"tenement/view"
)

// many is the number of frames of the machine that is held against a ghost: enough for eight domains of one frame, not for many greater ones.
const many = 30

// dice makes numbers by a fixed rule.
type dice uint32

func (d *dice) of(l ...int) int { return l[d.below(len(l))] }

func (d *dice) below(n int) int {
	*d = *d*1664525 + 1013904223
	return int(*d>>12) % n
}

// seldom is one of the numbers that can't be, at times; else it is n.
func (d *dice) seldom(n int, l ...int) int {
	if d.below(40) == 0 {
		return d.of(append(l, math.MinInt, -1, math.MaxInt)...)
	}
	return n
}

// ref is a reference to a frame.
type ref struct{ mfn, kind int }

// ghost has what there is, one by one. It counts nothing: whatever it is asked, it goes over all that holds frames anew.
type ghost struct {
	b      *bed
	owner  [many]int
	doms   [api.MaxDoms]api.Dom
	places [api.MaxDoms]map[int]int
	pins   [api.MaxDoms][]api.Pin
	maps   []api.Mapped
	others []ref // what was taken of the machine itself
}

func newGhost(b *bed) *ghost {
	g := &ghost{b: b}
	for mfn := range g.owner {
		g.owner[mfn] = api.NoOwner
	}
	g.owner[0], g.owner[1] = api.Hyper, api.Hyper
	for n := range g.doms {
		g.gone(n)
	}
	return g
}

func (g *ghost) gone(n int) { g.doms[n], g.places[n] = api.Dom{Grant: -1, Root: -1}, nil }

func (g *ghost) owned(n int) []int {
	var l []int
	for mfn, owner := range g.owner {
		if owner == n {
			l = append(l, mfn)
		}
	}
	return l
}

// refs are all references that there are. What tables say stands in the machine, where the guests' updates have laid it.
func (g *ghost) refs() []ref {
	l := slices.Clone(g.others)
	for n, d := range g.doms {
		if d.Grant >= 0 {
			l = append(l, ref{d.Grant, api.KWrite})
		}
		if d.Root >= 0 {
			l = append(l, ref{d.Root, api.KL2})
		}
		for _, p := range g.pins[n] {
			l = append(l, ref{p.Mfn, p.Level + 1})
		}
	}
	for _, a := range g.maps {
		l = append(l, ref{a.Mfn, kindOf(a.Write)})
	}
	seen := [many]bool{}
	// The list grows while it is gone over, so that tables which tables name are met too.
	for i := 0; i < len(l); i++ {
		if r := l[i]; r.kind >= api.KL1 && !seen[r.mfn] {
			seen[r.mfn] = true
			for index := range api.Entries {
				l = append(l, g.asked(r, index)...)
			}
		}
	}
	return l
}

// asked is the reference that an entry of a table takes.
func (g *ghost) asked(table ref, index int) []ref {
	b, _ := g.b.h.Machine().Read(table.mfn, 4*index, 4)
	n := int(binary.LittleEndian.Uint32(b))
	switch {
	case n%2 == 0:
		return nil
	case table.kind == api.KL2:
		return []ref{{n / 256, api.KL1}}
	}
	return []ref{{n / 256, kindOf(n&2 != 0)}}
}

func kindOf(write bool) int {
	if write {
		return api.KWrite
	}
	return api.KNone
}

func (g *ghost) frame(l []ref, mfn int) api.Frame {
	f := api.Frame{Owner: g.owner[mfn]}
	for _, r := range l {
		if r.mfn == mfn {
			f.Total++
			if r.kind != api.KNone {
				f.Type = r.kind
				f.Count++
			}
		}
	}
	return f
}

// state tells whether a domain is in one of those states, or why it is not.
func (g *ghost) state(n int, not api.Errno, l ...int) api.Errno {
	switch {
	case n < 0 || n > 7:
		return api.ErrArg
	case g.doms[n].State == api.DomNone:
		return api.ErrNone
	case !slices.Contains(l, g.doms[n].State):
		return not
	}
	return api.OK
}

func (g *ghost) live(n int) api.Errno {
	return g.state(n, api.ErrDying, api.DomPaused, api.DomRunning)
}

func (g *ghost) build(size int) (int, api.Errno) {
	free := g.owned(api.NoOwner)
	n := slices.IndexFunc(g.doms[:], func(d api.Dom) bool { return d.State == api.DomNone })
	switch {
	case size < 1 || size > 48:
		return 0, api.ErrBadSize
	case len(free) < size+2:
		return 0, api.ErrNoFrames
	case n < 0:
		return 0, api.ErrFull
	}
	for _, mfn := range free[:size+2] {
		g.owner[mfn] = n
	}
	g.places[n] = map[int]int{}
	for gpfn, mfn := range free[:size] {
		g.places[n][gpfn] = mfn
	}
	g.doms[n] = api.Dom{State: api.DomPaused, Size: size, Grant: free[0], Root: free[size]}
	return n, api.OK
}

func (g *ghost) turn(n, from, to int) api.Errno {
	e := g.state(n, api.ErrState, from)
	if e == api.OK {
		g.doms[n].State = to
	}
	return e
}

func (g *ghost) destroy(n int) api.Errno {
	e := g.live(n)
	if e == api.OK {
		g.pins[n] = nil
		g.maps = slices.DeleteFunc(g.maps, func(a api.Mapped) bool { return a.Caller == n })
		g.doms[n].State, g.doms[n].Grant, g.doms[n].Root = api.DomDying, -1, -1
		g.sweep()
	}
	return e
}

func (g *ghost) sweep() int {
	freed := 0
	l := g.refs()
	for n, d := range g.doms {
		if d.State != api.DomDying {
			continue
		}
		for _, mfn := range g.owned(n) {
			if g.frame(l, mfn).Total == 0 {
				g.owner[mfn] = api.NoOwner
				for gpfn, is := range g.places[n] {
					if is == mfn {
						delete(g.places[n], gpfn)
					}
				}
				freed++
			}
		}
		if len(g.owned(n)) == 0 {
			g.gone(n)
		}
	}
	return freed
}

func (g *ghost) mapAt(caller, handle int) int {
	return slices.IndexFunc(g.maps, func(a api.Mapped) bool { return a.Caller == caller && a.Handle == handle })
}

// grant is of an entry that was just laid.
func (g *ghost) grant(caller, owner, at int, entry api.Grant, write bool) (int, api.Errno) {
	if e := g.live(caller); e != api.OK {
		return 0, e
	}
	if g.live(owner) != api.OK || at < 0 || at > 31 {
		return 0, api.ErrArg
	}
	handle := 0
	for g.mapAt(caller, handle) >= 0 {
		handle++
	}
	mfn, ok := g.places[owner][entry.Gpfn]
	switch {
	case handle == 16:
		return 0, api.ErrMaps
	case entry.Dom != caller:
		return 0, api.ErrGrant
	case write && entry.RO:
		return 0, api.ErrMode
	case !ok:
		return 0, api.ErrGrant
	case write && g.frame(g.refs(), mfn).Type >= api.KL1:
		return 0, api.ErrType
	}
	g.maps = append(g.maps, api.Mapped{Handle: handle, Caller: caller, Owner: owner, Ref: at, Mfn: mfn, Write: write})
	return handle, api.OK
}

// unmap is the grants' own call; a sweep is none of it.
func (g *ghost) unmap(caller, handle int) api.Errno {
	if caller < 0 || caller > 7 {
		return api.ErrArg
	}
	i := g.mapAt(caller, handle)
	if i < 0 {
		return api.ErrNone
	}
	g.maps = slices.Delete(g.maps, i, i+1)
	return api.OK
}

func (g *ghost) unpin(n, mfn int) api.Errno {
	if n < 0 || n > 7 {
		return api.ErrArg
	}
	i := slices.IndexFunc(g.pins[n], func(p api.Pin) bool { return p.Mfn == mfn })
	if i < 0 {
		return api.ErrNone
	}
	g.pins[n] = slices.Delete(g.pins[n], i, i+1)
	return api.OK
}

// swept is what Ungrant and Unpin do behind a call that went well.
func (g *ghost) swept(e api.Errno) api.Errno {
	if e == api.OK {
		g.sweep()
	}
	return e
}

func (d *dice) dom() int { return d.seldom(d.of(0, 0, 1, 1, 2, 2, 3, 4, 5, 6, 7), 8) }

// frameOf is a frame of a domain's, if it has one.
func (d *dice) frameOf(g *ghost, n int) int {
	if n >= 0 && n <= 7 && len(g.owned(n)) > 0 && d.below(10) > 0 {
		return d.of(g.owned(n)...)
	}
	return d.seldom(d.below(many), many)
}

// guest does what guests do of themselves, by the lower layers' calls.
func (d *dice) guest(g *ghost) {
	h, n := g.b.h, d.below(api.MaxDoms)
	mfn := d.frameOf(g, n)
	switch d.below(8) {
	case 0:
		level := d.of(1, 1, 2)
		if gpfn, e := h.Map(n).Find(mfn); e == api.OK {
			g.loosen(n, gpfn)
		}
		if h.Mmu().Pin(n, mfn, level) == api.OK {
			g.pins[n] = append(g.pins[n], api.Pin{Mfn: mfn, Level: level})
		}
	case 1:
		// Most of the time a domain keeps a root.
		if to := d.of(mfn, mfn, mfn, -1); h.Mmu().Base(n, to) == api.OK {
			g.doms[n].Root = to
		}
	case 2:
		d.write(g, mfn)
	case 3:
		d.transfer(g, n)
	case 4:
		d.other(g, mfn)
	default:
		to := d.frameOf(g, n)
		h.Mmu().Update(n, []api.Update{{Table: mfn, Index: d.below(6), Value: uint32(d.of(0, 0, 1, 3, 3) + 256*max(to, 0))}})
	}
}

// write lays bytes into a frame that is no table, now and then such as a table has.
func (d *dice) write(g *ghost, mfn int) {
	m := g.b.h.Machine()
	if f, e := m.Frame(mfn); e == api.OK && f.Owner >= 0 && f.Type < api.KL1 {
		m.Write(mfn, 4*d.below(6), []byte{byte(d.of(0, 1, 3)), byte(d.below(many)), 0, 0, byte(d.of(0, 1)), byte(d.below(many)), 0, 0})
		m.Write(mfn, 200, []byte("not noughts"))
	}
}

// loosen takes the frame at a place of a domain's from the tables that it was built with.
func (g *ghost) loosen(n, gpfn int) {
	for _, table := range g.owned(n) {
		g.b.h.Mmu().Update(n, []api.Update{{Table: table, Index: gpfn}})
	}
}

// transfer lets a domain give a frame away that it has taken from its tables ahead.
func (d *dice) transfer(g *ghost, n int) {
	h, to := g.b.h, d.below(api.MaxDoms)
	if g.live(n) != api.OK || g.live(to) != api.OK || len(g.places[n]) == 0 {
		return
	}
	gpfn, there := h.Map(n).List()[d.below(len(g.places[n]))].Gpfn, d.below(48)
	g.loosen(n, gpfn)
	l, _ := grant.Pack(api.Grant{Kind: 2, Dom: n, Gpfn: there, Len: 256})
	h.Machine().Write(g.doms[to].Grant, 8*31, l)
	v, _ := view.New(h.Machine(), nil)
	if h.Grants().Transfer(v, n, gpfn, to, 31) == api.OK {
		mfn := g.places[n][gpfn]
		delete(g.places[n], gpfn)
		g.places[to][there], g.owner[mfn] = mfn, to
	}
}

// other takes a reference of the machine itself, or lets one go.
func (d *dice) other(g *ghost, mfn int) {
	m := g.b.h.Machine()
	r := ref{mfn, d.of(api.KNone, api.KWrite)}
	if len(g.others) > 0 && d.below(3) > 0 {
		r = g.others[d.below(len(g.others))]
		g.others = slices.DeleteFunc(g.others, func(o ref) bool { return o == r && m.Put(r.mfn, r.kind) == api.OK })
	} else if f, _ := m.Frame(mfn); m.Get(r.mfn, f.Owner, r.kind) == api.OK {
		g.others = append(g.others, r)
	}
}

// told is what a call answered: its error, and a number beside it.
type told struct {
	e api.Errno
	n int
}

// The calls that are held against the ghost.
const (
	cBuild = iota
	cPause
	cUnpause
	cDestroy
	cGrant
	cUngrant
	cUnpin
	cSweep
	cUnmap // the grants' own
)

// do does a call to the hypervisor and to its ghost, and tells which one and both answers.
func (d *dice) do(g *ghost) (call int, is, must told) {
	h, n := g.b.h, d.dom()
	call = d.of(cBuild, cBuild, cPause, cUnpause, cDestroy, cGrant, cGrant, cGrant, cGrant, cGrant, cUngrant, cUngrant, cUnpin, cSweep, cUnmap)
	caller, handle := n, d.seldom(d.of(0, 0, 1, 2), 16)
	if len(g.maps) > 0 && d.below(4) > 0 {
		a := g.maps[d.below(len(g.maps))]
		caller, handle = a.Caller, a.Handle
	}
	switch call {
	case cBuild:
		size := d.seldom(d.of(1, 1, 1, 2, 3, 4, 30), 0, 49)
		is.n, is.e = h.Build(size)
		must.n, must.e = g.build(size)
	case cPause:
		is.e, must.e = h.Pause(n), g.turn(n, api.DomRunning, api.DomPaused)
	case cUnpause:
		is.e, must.e = h.Unpause(n), g.turn(n, api.DomPaused, api.DomRunning)
	case cDestroy:
		is.e, must.e = h.Destroy(n), g.destroy(n)
	case cGrant:
		is, must = d.grant(g, n)
	case cUngrant:
		is.e, must.e = h.Ungrant(caller, handle), g.swept(g.unmap(caller, handle))
	case cUnpin:
		mfn := d.frameOf(g, n)
		if n >= 0 && n <= 7 && len(g.pins[n]) > 0 && d.below(4) > 0 {
			mfn = g.pins[n][0].Mfn
		}
		is.e, must.e = h.Unpin(n, mfn), g.swept(g.unpin(n, mfn))
	case cSweep:
		is.n, must.n = h.Sweep(), g.sweep()
	case cUnmap:
		is.e, must.e = h.Grants().Unmap(caller, handle), g.unmap(caller, handle)
	}
	return call, is, must
}

// grant lays an entry and asks for a map by it.
func (d *dice) grant(g *ghost, owner int) (is, must told) {
	h, caller := g.b.h, d.seldom(d.of(0, 0, 0, 1, 1, 2, 3, 4, 5, 6, 7), 8)
	at, write := d.seldom(d.of(0, 1, 5), 32), d.below(2) == 0
	entry := api.Grant{Kind: 1, RO: d.below(4) == 0, Dom: max(d.seldom(caller, 3), 0) % 65536, Gpfn: d.of(0, 1, 2, d.below(48)), Len: 256}
	// Of the places a few have tables, so that they are looked for.
	for _, p := range h.Map(owner).List() {
		if f, _ := h.Machine().Frame(p.Mfn); f.Type >= api.KL1 && d.below(2) == 0 {
			entry.Gpfn = p.Gpfn
		}
	}
	if g.live(owner) == api.OK && at >= 0 && at <= 31 {
		l, e := grant.Pack(entry)
		g.b.want("Pack", e, api.OK)
		h.Machine().Write(g.doms[owner].Grant, 8*at, l)
	}
	is.n, is.e = h.Grant(g.b.view(), caller, owner, at, write)
	must.n, must.e = g.grant(caller, owner, at, entry, write)
	return is, must
}

// check asks that all is as the ghost has it, and so that every frame is free, the hypervisor's, or of a domain that is there.
func (g *ghost) check(t *testing.T) {
	t.Helper()
	m := g.b.h.Machine()
	l := g.refs()
	for mfn := range many {
		if f, _ := m.Frame(mfn); f != g.frame(l, mfn) {
			t.Fatalf("Frame(%d) = %+v, not %+v", mfn, f, g.frame(l, mfn))
		}
		if b, _ := m.Read(mfn, 0, api.PageBytes); g.owner[mfn] == api.NoOwner && !bytes.Equal(b, make([]byte, api.PageBytes)) {
			t.Fatalf("frame %d is free and has %x", mfn, b)
		}
	}
	sum := m.Left() + len(m.Owned(api.Hyper))
	for n := range api.MaxDoms {
		g.checkDom(t, n)
		if d, e := g.b.h.Dom(n); e == api.OK {
			sum += d.Frames
		}
	}
	if sum != many {
		t.Fatalf("%d frames in all", sum)
	}
}

func (g *ghost) checkDom(t *testing.T, n int) {
	t.Helper()
	h := g.b.h
	d, e := h.Dom(n)
	must, why := g.doms[n], g.state(n, api.OK)
	must.Frames = len(g.owned(n))
	if why != api.OK {
		must = api.Dom{}
	}
	if d != must || e != why || h.Live(n) != g.live(n) {
		t.Fatalf("Dom(%d) = %+v, %v, not %+v, %v; Live is %v, not %v", n, d, e, must, why, h.Live(n), g.live(n))
	}
	if p := h.Map(n); p != nil != (why == api.OK) || len(p.List()) != len(g.places[n]) {
		t.Fatalf("Map(%d) has %v, not %v", n, p.List(), g.places[n])
	}
	for gpfn, mfn := range g.places[n] {
		if is, e := h.Map(n).Get(gpfn); is != mfn || e != api.OK {
			t.Fatalf("place %d of %d has %d, %v, not %d", gpfn, n, is, e, mfn)
		}
	}
	if h.Mmu().Root(n) != g.doms[n].Root || !slices.Equal(h.Mmu().Pins(n), g.pins[n]) {
		t.Fatalf("domain %d has the root %d and the pins %v, not %d, %v", n, h.Mmu().Root(n), h.Mmu().Pins(n), g.doms[n].Root, g.pins[n])
	}
	for _, a := range h.Grants().Maps(n) {
		if !slices.Contains(g.maps, a) {
			t.Fatalf("a map is left: %+v", a)
		}
	}
}

// P17.5, and with it P17.1 to P17.3 for calls in any order, under guests that change their tables, give frames away, and map those of others.
func TestAgainstAGhost(t *testing.T) {
	d := new(dice)
	met := map[[2]int]int{}
	lingered := 0
	for range 150 {
		g := newGhost(makeBed(t, many))
		for step := range 150 {
			if d.below(2) == 0 {
				d.guest(g)
			}
			call, is, must := d.do(g)
			if is != must {
				t.Fatalf("step %d, call %d: %v, %d, not %v, %d", step, call, is.e, is.n, must.e, must.n)
			}
			met[[2]int{call, int(is.e)}]++
			g.check(t)
			for _, dom := range g.doms {
				if dom.State == api.DomDying {
					lingered++
				}
			}
		}
	}
	if lingered < 1000 {
		t.Errorf("domains were dying %d times", lingered)
	}
	wantMet(t, met)
}

// wantMet asks that each error that a call can tell was told.
func wantMet(t *testing.T, met map[[2]int]int) {
	t.Helper()
	for call, l := range [][]api.Errno{
		cBuild:   {api.OK, api.ErrBadSize, api.ErrNoFrames, api.ErrFull},
		cPause:   {api.OK, api.ErrArg, api.ErrNone, api.ErrState},
		cUnpause: {api.OK, api.ErrArg, api.ErrNone, api.ErrState},
		cDestroy: {api.OK, api.ErrArg, api.ErrNone, api.ErrDying},
		cGrant:   {api.OK, api.ErrArg, api.ErrNone, api.ErrDying, api.ErrGrant, api.ErrMode, api.ErrType},
		cUngrant: {api.OK, api.ErrArg, api.ErrNone},
		cUnpin:   {api.OK, api.ErrArg, api.ErrNone},
		cUnmap:   {api.OK, api.ErrArg, api.ErrNone},
	} {
		for _, e := range l {
			if met[[2]int{call, int(e)}] < 5 {
				t.Errorf("call %d has answered %v too seldom: %v", call, e, met)
			}
		}
	}
}

// G3: when all domains are destroyed and nobody holds anything any more, all frames but the hypervisor's are free.
func TestAllComesBack(t *testing.T) {
	d := new(dice)
	for range 60 {
		g := newGhost(makeBed(t, many))
		for range 120 {
			d.guest(g)
			d.do(g)
		}
		for n := range api.MaxDoms {
			g.b.h.Destroy(n)
		}
		for _, r := range g.others {
			g.b.want("Put", g.b.h.Machine().Put(r.mfn, r.kind), api.OK)
		}
		// By the lower layers' calls a domain that is dying may still have got tables.
		for n := range api.MaxDoms {
			for _, p := range g.b.h.Mmu().Pins(n) {
				g.b.want("Unpin", g.b.h.Unpin(n, p.Mfn), api.OK)
			}
			g.b.want("Base", g.b.h.Mmu().Base(n, -1), api.OK)
		}
		g.b.h.Sweep()
		g.b.freed(upTo(2, many-2)...)
		for n := range api.MaxDoms {
			g.b.dom(n, api.Dom{}, api.ErrNone)
		}
	}
}

// P5: the same calls tell the same, whatever was done to another hypervisor.
func TestSameCallsSameAnswers(t *testing.T) {
	last := ""
	for round := range 2 {
		g, h := newGhost(makeBed(t, many)), newGhost(makeBed(t, many))
		d, other := new(dice), dice(round+7)
		for range 300 {
			d.guest(g)
			d.do(g)
			other.guest(h)
			other.do(h)
		}
		is := look(g.b.h)
		if round == 1 && is != last {
			t.Error("two hypervisors with the same calls are not the same")
		}
		last = is
	}
}
