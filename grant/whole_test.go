package grant_test

import (
	"bytes"
	"math"
	"slices"
	"testing"

	"tenement/api"
)

// dice makes numbers by a fixed rule.
type dice uint32

func (d *dice) of(l ...int) int { return l[d.below(len(l))] }

func (d *dice) below(n int) int {
	*d = *d*1664525 + 1013904223
	return int(*d>>12) % n
}

// seldom is one of the numbers that can't be, at times; else it is n.
func (d *dice) seldom(n int, l ...int) int {
	if d.below(50) == 0 {
		return d.of(append(l, math.MinInt, -1, math.MaxInt)...)
	}
	return n
}

// ref is a reference to a frame.
type ref struct{ mfn, kind int }

// ghost has what there is, one by one: it counts nothing and keeps no list twice.
type ghost struct {
	owner  [size]int
	bytes  [size][api.PageBytes]byte
	others []ref // what was taken of the machine itself
	tables map[int]int
	places [3][places]int // -1: no frame
	maps   []api.Mapped   // in the order in which they were made
	pokes  []api.Poke
	reads  int
}

func newGhost(b *bed) *ghost {
	g := &ghost{tables: map[int]int{0: table0, 1: table1, 2: table2}}
	for mfn := range size {
		f, _ := b.m.Frame(mfn)
		g.owner[mfn] = f.Owner
	}
	for dom := range g.places {
		for gpfn := range places {
			g.places[dom][gpfn] = -1
			if mfn, e := b.p[dom].Get(gpfn); e == api.OK {
				g.places[dom][gpfn] = mfn
			}
		}
	}
	return g
}

func isDomain(dom int) bool { return dom >= 0 && dom <= 7 }

func kindOf(write bool) int {
	if write {
		return api.KWrite
	}
	return api.KNone
}

// refs are all references that there are.
func (g *ghost) refs() []ref {
	l := slices.Clone(g.others)
	for _, mfn := range g.tables {
		l = append(l, ref{mfn, api.KWrite})
	}
	for _, a := range g.maps {
		l = append(l, ref{a.Mfn, kindOf(a.Write)})
	}
	return l
}

func (g *ghost) frame(mfn int) api.Frame {
	f := api.Frame{Owner: g.owner[mfn]}
	for _, r := range g.refs() {
		if r.mfn == mfn {
			f.Total++
			if r.kind != api.KNone {
				f.Type = r.kind
				f.Count++
			}
		}
	}
	return f
}

func (g *ghost) picture() picture {
	p := picture{}
	for mfn := range size {
		p.frames = append(p.frames, g.frame(mfn))
		p.bytes = append(p.bytes, g.bytes[mfn][:]...)
	}
	for dom := range api.MaxDoms {
		for handle := range api.MaxMaps {
			if i := g.mapAt(dom, handle); i >= 0 {
				p.maps = append(p.maps, g.maps[i])
			}
		}
	}
	for _, l := range g.places {
		for gpfn, mfn := range l {
			if mfn >= 0 {
				p.places = append(p.places, api.Pair{Gpfn: gpfn, Mfn: mfn})
			}
		}
		p.places = append(p.places, api.Pair{Gpfn: -1})
	}
	return p
}

func (g *ghost) mapAt(caller, handle int) int {
	return slices.IndexFunc(g.maps, func(a api.Mapped) bool { return a.Caller == caller && a.Handle == handle })
}

// read does the rewrites of this read, and then tells the bytes.
func (g *ghost) read(mfn, off, n int) []byte {
	for _, p := range g.pokes {
		if p.At == g.reads && g.owner[p.Mfn] >= 0 && g.frame(p.Mfn).Type < api.KL1 {
			copy(g.bytes[p.Mfn][p.Off:], p.Bytes)
		}
	}
	g.reads++
	return bytes.Clone(g.bytes[mfn][off : off+n])
}

// can tells whether a reference of a kind may be taken.
func (g *ghost) can(mfn, kind int) bool {
	t := g.frame(mfn).Type
	return kind == api.KNone || t == api.KNone || t == kind
}

// entry reads eight bytes and tells, if they give that domain something of that kind, which part of which frame that is.
func (g *ghost) entry(caller, owner, at, kind int) (b []byte, mfn int, e api.Errno) {
	b = g.read(g.tables[owner], 8*at, 8)
	if b[1] != 0 || b[0] > 15 || int(b[0]&3) != kind || int(b[2])+256*int(b[3]) != caller {
		return nil, 0, api.ErrGrant
	}
	if b[0]&8 == 0 {
		b[6], b[7] = 0, 255
	} else if int(b[6])+int(b[7]) > 255 {
		return nil, 0, api.ErrGrant
	}
	gpfn := int(b[4]) + 256*int(b[5])
	if gpfn >= places || g.places[owner][gpfn] < 0 {
		return b, -1, api.OK
	}
	return b, g.places[owner][gpfn], api.OK
}

func (g *ghost) isSlot(owner, at int) bool {
	_, ok := g.tables[owner]
	return ok && at >= 0 && at <= 31
}

func (g *ghost) join(dom, mfn int) api.Errno {
	switch {
	case !isDomain(dom):
		return api.ErrArg
	case g.isSlot(dom, 0):
		return api.ErrTwice
	case mfn < 0 || mfn >= size:
		return api.ErrArg
	case g.owner[mfn] == api.NoOwner:
		return api.ErrFree
	case g.owner[mfn] != dom:
		return api.ErrOwner
	case !g.can(mfn, api.KWrite):
		return api.ErrType
	}
	g.tables[dom] = mfn
	return api.OK
}

func (g *ghost) leave(dom int) api.Errno {
	if !isDomain(dom) {
		return api.ErrArg
	}
	if !g.isSlot(dom, 0) {
		return api.ErrNone
	}
	delete(g.tables, dom)
	return api.OK
}

func (g *ghost) mapIt(caller, owner, at int, write bool) (int, api.Errno) {
	if !isDomain(caller) || !g.isSlot(owner, at) {
		return 0, api.ErrArg
	}
	handle := 0
	for g.mapAt(caller, handle) >= 0 {
		handle++
	}
	if handle == 16 {
		return 0, api.ErrMaps
	}
	b, mfn, e := g.entry(caller, owner, at, 1)
	switch {
	case e != api.OK:
		return 0, e
	case b[0]&8 != 0:
		return 0, api.ErrSub
	case write && b[0]&4 != 0:
		return 0, api.ErrMode
	case mfn < 0 || g.owner[mfn] != owner:
		return 0, api.ErrGrant
	case !g.can(mfn, kindOf(write)):
		return 0, api.ErrType
	}
	g.maps = append(g.maps, api.Mapped{Handle: handle, Caller: caller, Owner: owner, Ref: at, Mfn: mfn, Write: write})
	return handle, api.OK
}

func (g *ghost) use(caller, handle int) (*api.Mapped, api.Errno) {
	if !isDomain(caller) {
		return nil, api.ErrArg
	}
	i := g.mapAt(caller, handle)
	if i < 0 {
		return nil, api.ErrNone
	}
	return &g.maps[i], api.OK
}

func (g *ghost) unmap(caller, handle int) api.Errno {
	_, e := g.use(caller, handle)
	if e == api.OK {
		i := g.mapAt(caller, handle)
		g.maps = slices.Delete(g.maps, i, i+1)
	}
	return e
}

// lies tells whether n bytes from off on lie in a part of so many.
func lies(off, n, most int) bool {
	return off >= 0 && off <= most && n >= 0 && n <= most && off+n <= most
}

func (g *ghost) readMap(caller, handle, off, n int) ([]byte, api.Errno) {
	a, e := g.use(caller, handle)
	if e != api.OK {
		return nil, e
	}
	if !lies(off, n, 256) {
		return nil, api.ErrRange
	}
	return g.read(a.Mfn, off, n), api.OK
}

func (g *ghost) writeMap(caller, handle, off int, l []byte) api.Errno {
	a, e := g.use(caller, handle)
	switch {
	case e != api.OK:
		return e
	case !a.Write:
		return api.ErrMode
	case !lies(off, len(l), 256):
		return api.ErrRange
	}
	copy(g.bytes[a.Mfn][off:], l)
	return api.OK
}

// find tells where the bytes of an end begin; for writing, if write.
func (g *ghost) find(caller int, a api.End, n int, write bool) (mfn, at int, e api.Errno) {
	if !isDomain(caller) || n < 0 || a.Off < 0 {
		return 0, 0, api.ErrArg
	}
	first, most := 0, 256
	if a.Grant {
		if !g.isSlot(a.Dom, a.Ref) {
			return 0, 0, api.ErrArg
		}
		b, f, e := g.entry(caller, a.Dom, a.Ref, 1)
		if e != api.OK || f < 0 || g.owner[f] != a.Dom {
			return 0, 0, api.ErrGrant
		}
		if write && b[0]&4 != 0 {
			return 0, 0, api.ErrMode
		}
		mfn, first, most = f, int(b[6]), int(b[7])+1
	} else {
		if !g.isSlot(caller, 0) || a.Gpfn < 0 || a.Gpfn >= places {
			return 0, 0, api.ErrArg
		}
		if mfn = g.places[caller][a.Gpfn]; mfn < 0 {
			return 0, 0, api.ErrNone
		}
	}
	if !lies(a.Off, n, most) {
		return 0, 0, api.ErrRange
	}
	if write && g.frame(mfn).Type >= api.KL1 {
		return 0, 0, api.ErrType
	}
	return mfn, first + a.Off, api.OK
}

func (g *ghost) pull(caller int, a api.End, n int) ([]byte, api.Errno) {
	mfn, at, e := g.find(caller, a, n, false)
	if e != api.OK {
		return nil, e
	}
	return g.read(mfn, at, n), api.OK
}

func (g *ghost) push(caller int, a api.End, l []byte) api.Errno {
	mfn, at, e := g.find(caller, a, len(l), true)
	if e == api.OK && g.owner[mfn] == api.NoOwner {
		return api.ErrFree
	}
	if e == api.OK {
		copy(g.bytes[mfn][at:], l)
	}
	return e
}

func (g *ghost) transfer(caller, gpfn, to, at int) api.Errno {
	if !g.isSlot(caller, 0) || caller == to || !g.isSlot(to, at) || gpfn < 0 || gpfn >= places {
		return api.ErrArg
	}
	mfn := g.places[caller][gpfn]
	if mfn < 0 {
		return api.ErrNone
	}
	if g.owner[mfn] != caller {
		return api.ErrOwner
	}
	if g.frame(mfn).Total > 0 {
		return api.ErrBusy
	}
	b, there, e := g.entry(caller, to, at, 2)
	switch {
	case e != api.OK:
		return e
	case int(b[4])+256*int(b[5]) >= places:
		return api.ErrArg
	case there >= 0:
		return api.ErrTaken
	case slices.Contains(g.places[to][:], mfn):
		return api.ErrTwice
	}
	g.places[caller][gpfn], g.places[to][b[4]], g.owner[mfn] = -1, mfn, to
	return api.OK
}

func (g *ghost) revoke(owner, at int) api.Errno {
	if !g.isSlot(owner, at) {
		return api.ErrArg
	}
	if slices.ContainsFunc(g.maps, func(a api.Mapped) bool { return a.Owner == owner && a.Ref == at }) {
		return api.ErrBusy
	}
	copy(g.bytes[g.tables[owner]][8*at:], make([]byte, 8))
	return api.OK
}

// refNo is an entry's number; few of them, so that they are met often.
func (d *dice) refNo() int { return d.seldom(d.of(0, 0, 1, 31), 32) }

func (d *dice) dom() int { return d.seldom(d.of(0, 0, 0, 1, 1, 1, 2), 3, 7, 8) }

func (d *dice) end() api.End {
	return api.End{
		Grant: d.below(3) > 0, Dom: d.dom(), Ref: d.refNo(), Gpfn: d.seldom(d.below(places), places),
		Off: d.seldom(d.of(0, 0, 0, 1, 7, 8, 200, 255, 256), 257),
	}
}

// laid is an entry's bytes, most of them such as give something.
func (d *dice) laid() []byte {
	b := []byte{
		byte(d.of(1, 1, 1, 1, 1, 2, 2, 2, 2, 5, 9, 9, 13, 6, 0, 3)), byte(d.seldom(0, 1)),
		byte(d.of(0, 0, 1, 1, 2, 3)), byte(d.seldom(0, 1)), byte(d.seldom(d.of(1, 2, 3, d.below(places)), places)), byte(d.seldom(0, 1)),
		byte(d.of(0, 16, 200)), byte(d.of(0, 7, 55, 55, 56, 255)),
	}
	if d.below(20) == 0 {
		b[0] |= 1 << (4 + d.below(4))
	}
	return b
}

// guest lays bytes into a grant frame, or does so by a rewrite of a new view.
func (d *dice) guest(b *bed, g *ghost) {
	table, off, l := d.of(table0, table1, table2), 8*d.of(0, 0, 1, 31), d.laid()
	if d.below(4) > 0 {
		if g.owner[table] != api.NoOwner {
			copy(g.bytes[table][off:], l)
			b.m.Write(table, off, l)
		}
		return
	}
	g.pokes, g.reads = []api.Poke{
		{At: d.of(0, 1, 2), Mfn: table, Off: off, Bytes: l},
		{At: d.of(0, 1, 2), Mfn: d.below(size), Off: d.of(0, 16, 255), Bytes: []byte{byte(d.below(256))}},
		{At: d.of(1, 2, 3), Mfn: d.of(table0, table1, table2), Off: off, Bytes: d.laid()},
	}, 0
	b.view(g.pokes...)
}

// other takes a reference of the machine itself, or lets one go; or it changes who owns a frame, or where one stands.
func (d *dice) other(b *bed, g *ghost) {
	mfn, kind := d.below(size), d.of(api.KNone, api.KWrite, api.KL1, api.KL2)
	dom, gpfn := d.below(3), d.below(places)
	switch d.below(10) {
	case 0:
		if b.m.Give(mfn, dom) == api.OK {
			g.owner[mfn] = dom
		}
	case 1:
		if _, e := b.p[dom].Clear(gpfn); e == api.OK {
			g.places[dom][gpfn] = -1
		}
	case 2, 8, 9:
		if b.p[dom].Set(gpfn, mfn) == api.OK {
			g.places[dom][gpfn] = mfn
		}
	case 3:
		if n, e := b.m.Alloc(dom); e == api.OK && d.below(2) == 0 {
			g.owner[n] = dom
		} else if e == api.OK {
			b.m.Free(n)
		}
	case 4:
		if d.below(3) == 0 && b.m.Free(mfn) == api.OK {
			g.owner[mfn], g.bytes[mfn] = api.NoOwner, [api.PageBytes]byte{}
		}
	default:
		if i := slices.Index(g.others, ref{mfn, kind}); i >= 0 {
			g.others = slices.Delete(g.others, i, i+1)
			b.m.Put(mfn, kind)
		} else if b.m.Get(mfn, g.owner[mfn], kind) == api.OK {
			g.others = append(g.others, ref{mfn, kind})
		}
	}
}

// told is what a call answered: its error, and a number or bytes beside it.
type told struct {
	e api.Errno
	n int
	b string
}

// The calls that are held against the ghost.
const (
	cJoin = iota
	cLeave
	cMap
	cUnmap
	cRead
	cWrite
	cPull
	cPush
	cCopy
	cTransfer
	cRevoke
)

// args are what a call is given; each call takes what it needs.
type args struct {
	dom, to, ref, handle, mfn, gpfn, off, n int
	write                                   bool
	from, end                               api.End
	l                                       []byte
}

// args are such as a call may go well with, more often than not.
func (d *dice) args(g *ghost, call int) args {
	a := args{
		dom: d.dom(), to: d.dom(), ref: d.refNo(), handle: d.seldom(d.of(0, 0, 1, 2), 16),
		mfn: d.seldom(d.below(size), size), gpfn: d.seldom(d.below(places), places), write: d.below(2) == 0,
		off: d.seldom(d.of(0, 1, 100, 255, 256), 257), n: d.seldom(d.of(0, 1, 1, 2, 7, 8, 9, 56, 255, 256), 257),
		from: d.end(), end: d.end(), l: filled(d.below(99))[:d.of(0, 1, 1, 2, 7, 8, 9, 56, 256)],
	}
	if d.below(4) > 0 && g.isSlot(a.to, a.ref) {
		a.dom = int(g.bytes[g.tables[a.to]][8*a.ref+2])
		for _, e := range []*api.End{&a.from, &a.end} {
			if d.below(3) > 0 {
				e.Dom, e.Ref = a.to, a.ref
			}
		}
	}
	if i := len(g.maps); (call == cUnmap || call == cRead || call == cWrite) && i > 0 && d.below(4) > 0 {
		m := g.maps[d.below(i)]
		a.dom, a.handle = m.Caller, m.Handle
	}
	if call == cJoin && (a.dom < 0 || a.dom > 2) {
		a.dom = 0 // None of the others has a map of places.
	}
	return a
}

// do does a call to the grants and to their ghost, and tells which one and both answers.
func (d *dice) do(b *bed, g *ghost) (call int, is, must told) {
	call = d.of(cMap, cMap, cMap, cUnmap, cRead, cWrite, cPull, cPull, cPush, cPush, cCopy, cCopy, cTransfer, cTransfer, cRevoke, d.of(cJoin, cJoin, cJoin, cJoin, cLeave))
	a := d.args(g, call)
	x, v := b.x, b.v
	var got, want []byte
	switch call {
	case cJoin:
		is.e, must.e = x.Join(a.dom, a.mfn, b.p[a.dom]), g.join(a.dom, a.mfn)
	case cLeave:
		is.e, must.e = x.Leave(a.dom), g.leave(a.dom)
	case cMap:
		is.n, is.e = x.Map(v, a.dom, a.to, a.ref, a.write)
		must.n, must.e = g.mapIt(a.dom, a.to, a.ref, a.write)
	case cUnmap:
		is.e, must.e = x.Unmap(a.dom, a.handle), g.unmap(a.dom, a.handle)
	case cRead:
		got, is.e = x.Read(v, a.dom, a.handle, a.off, a.n)
		want, must.e = g.readMap(a.dom, a.handle, a.off, a.n)
	case cWrite:
		is.e, must.e = x.Write(a.dom, a.handle, a.off, a.l), g.writeMap(a.dom, a.handle, a.off, a.l)
	case cPull:
		got, is.e = x.Pull(v, a.dom, a.from, a.n)
		want, must.e = g.pull(a.dom, a.from, a.n)
	case cPush:
		is.e, must.e = x.Push(v, a.dom, a.end, a.l), g.push(a.dom, a.end, a.l)
	case cCopy:
		is.e = x.Copy(v, a.dom, a.from, a.end, a.n)
		if want, must.e = g.pull(a.dom, a.from, a.n); must.e == api.OK {
			must.e, want = g.push(a.dom, a.end, want), nil
		}
	case cTransfer:
		is.e, must.e = x.Transfer(v, a.dom, a.gpfn, a.to, a.ref), g.transfer(a.dom, a.gpfn, a.to, a.ref)
	case cRevoke:
		is.e, must.e = x.Revoke(a.to, a.ref), g.revoke(a.to, a.ref)
	}
	is.b, must.b = string(got), string(want)
	return call, is, must
}

// P6.8, and with it P6.2 to P6.6 for calls in any order.
func TestAgainstAGhost(t *testing.T) {
	d := new(dice)
	met := map[[2]int]int{}
	for range 600 {
		b := makeBed(t)
		g := newGhost(b)
		for range 12 {
			d.guest(b, g)
		}
		for step := range 100 {
			if d.below(2) == 0 {
				d.guest(b, g)
			}
			if d.below(8) == 0 {
				d.other(b, g)
			}
			call, is, must := d.do(b, g)
			if is != must {
				t.Fatalf("step %d, call %d: %v, %d, %x, not %v, %d, %x", step, call, is.e, is.n, is.b, must.e, must.n, must.b)
			}
			met[[2]int{call, int(is.e)}]++
			if b.v.Reads() != g.reads {
				t.Fatalf("step %d, call %d: %d reads, not %d", step, call, b.v.Reads(), g.reads)
			}
			if now := look(b); !now.equal(g.picture()) {
				t.Fatalf("step %d, call %d, %v: not as it must be:\n%+v\n%+v", step, call, is.e, now.frames, g.picture().frames)
			}
			wantForeign(t, b, g)
		}
	}
	wantMet(t, met)
}

func wantForeign(t *testing.T, b *bed, g *ghost) {
	t.Helper()
	for owner := range api.MaxDoms {
		n := 0
		for _, a := range g.maps {
			if g.owner[a.Mfn] == owner {
				n++
			}
		}
		if got := b.x.Foreign(owner); got != n {
			t.Fatalf("Foreign(%d) = %d, not %d", owner, got, n)
		}
	}
}

// wantMet asks that each error that a call can tell was told.
func wantMet(t *testing.T, met map[[2]int]int) {
	t.Helper()
	ends := []api.Errno{api.OK, api.ErrArg, api.ErrNone, api.ErrGrant, api.ErrRange}
	for call, l := range [][]api.Errno{
		cJoin:     {api.OK, api.ErrArg, api.ErrTwice, api.ErrFree, api.ErrOwner, api.ErrType},
		cLeave:    {api.OK, api.ErrArg, api.ErrNone},
		cMap:      {api.OK, api.ErrArg, api.ErrGrant, api.ErrSub, api.ErrMode, api.ErrType},
		cUnmap:    {api.OK, api.ErrArg, api.ErrNone},
		cRead:     {api.OK, api.ErrArg, api.ErrNone, api.ErrRange},
		cWrite:    {api.OK, api.ErrArg, api.ErrNone, api.ErrMode, api.ErrRange},
		cPull:     ends,
		cPush:     append(slices.Clone(ends), api.ErrMode, api.ErrType),
		cCopy:     append(slices.Clone(ends), api.ErrMode, api.ErrType),
		cTransfer: {api.OK, api.ErrArg, api.ErrNone, api.ErrOwner, api.ErrBusy, api.ErrGrant, api.ErrTaken},
		cRevoke:   {api.OK, api.ErrArg, api.ErrBusy},
	} {
		for _, e := range l {
			if met[[2]int{call, int(e)}] < 5 {
				t.Errorf("call %d has answered %v too seldom: %v", call, e, met)
			}
		}
	}
}

// When all maps are let go and all domains have left, nothing is held but what others took.
func TestAllLetGo(t *testing.T) {
	d := new(dice)
	for range 60 {
		b := makeBed(t)
		g := newGhost(b)
		for range 150 {
			d.guest(b, g)
			d.other(b, g)
			d.do(b, g)
		}
		for dom := range api.MaxDoms {
			for _, a := range b.x.Maps(dom) {
				b.want("Unmap", b.x.Unmap(dom, a.Handle), api.OK)
			}
			b.x.Leave(dom)
		}
		g.maps, g.tables = nil, nil
		if !slices.Equal(look(b).frames, g.picture().frames) {
			t.Fatalf("%+v, not %+v", look(b).frames, g.picture().frames)
		}
	}
}

// P5: the same calls tell the same, whatever was done to other grants.
func TestSameCallsSameAnswers(t *testing.T) {
	var last picture
	for round := range 2 {
		b, c := makeBed(t), makeBed(t)
		g, h := newGhost(b), newGhost(c)
		d, other := new(dice), dice(round+7)
		for range 300 {
			d.guest(b, g)
			d.do(b, g)
			other.guest(c, h)
			other.do(c, h)
		}
		if round == 1 && !last.equal(look(b)) {
			t.Error("two machines with the same calls are not the same")
		}
		last = look(b)
	}
}
