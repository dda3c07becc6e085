package mmu_test

import (
	"encoding/binary"
	"math"
	"slices"
	"testing"

	"tenement/api"
	"tenement/mmu"
	"tenement/phys"
)

// dice makes numbers by a fixed rule.
type dice uint32

func (d *dice) of(l ...int) int {
	return l[d.below(len(l))]
}

func (d *dice) below(n int) int {
	*d = *d*1664525 + 1013904223
	return int(*d>>12) % n
}

// many is the number of frames of the machine that is held against a ghost.
const many = 10

// ref is a reference to a frame.
type ref struct{ mfn, kind int }

// ghost counts nothing: it has what holds frames, and goes over all tables anew for whatever is asked.
type ghost struct {
	owner   [many]int
	entries [many][api.Entries]uint32
	pins    [api.MaxDoms][]api.Pin
	roots   [api.MaxDoms]int
	others  []ref // what was taken of the machine itself
}

// refs are all references, of the tables in use too.
func (g *ghost) refs() []ref {
	l := slices.Clone(g.others)
	for dom := range g.pins {
		for _, p := range g.pins[dom] {
			l = append(l, ref{p.Mfn, p.Level + 1})
		}
		if g.roots[dom] >= 0 {
			l = append(l, ref{g.roots[dom], api.KL2})
		}
	}
	seen := [many]bool{}
	// The list grows while it is gone over, so that tables which tables name are met too.
	for i := 0; i < len(l); i++ {
		if r := l[i]; r.kind >= api.KL1 && !seen[r.mfn] {
			seen[r.mfn] = true
			for _, n := range g.entries[r.mfn] {
				if n%2 == 1 {
					l = append(l, ref{int(n / 256), asked(r.kind, n)})
				}
			}
		}
	}
	return l
}

// asked is the kind of reference that an entry of a table takes.
func asked(kind int, n uint32) int {
	return [2][2]int{{api.KNone, api.KWrite}, {api.KL1, api.KL1}}[kind-api.KL1][n/2%2]
}

func kindIn(l []ref, mfn int) int {
	for _, r := range l {
		if r.mfn == mfn && r.kind != api.KNone {
			return r.kind
		}
	}
	return api.KNone
}

// ask tells the references l with one more, and those that it brings with it.
func (g *ghost) ask(l []ref, dom, mfn, kind int) ([]ref, api.Errno) {
	if mfn >= many || g.owner[mfn] != dom {
		return nil, api.ErrOwner
	}
	is := kindIn(l, mfn)
	if kind != api.KNone && is != api.KNone && is != kind {
		return nil, api.ErrType
	}
	l = append(l, ref{mfn, kind})
	if kind < api.KL1 || is == kind {
		return l, api.OK
	}
	for _, n := range g.entries[mfn] {
		var e api.Errno
		if l, e = g.askEntry(l, dom, kind, n); e != api.OK {
			return nil, e
		}
	}
	return l, api.OK
}

func (g *ghost) askEntry(l []ref, dom, kind int, n uint32) ([]ref, api.Errno) {
	if n%2 == 0 {
		return l, api.OK
	}
	if n%256 > 3 {
		return nil, api.ErrForm
	}
	return g.ask(l, dom, int(n/256), asked(kind, n))
}

func (g *ghost) pin(dom, mfn, level int) api.Errno {
	if dom < 0 || dom >= api.MaxDoms || mfn < 0 || mfn >= many || level != 1 && level != 2 {
		return api.ErrArg
	}
	if g.pinned(dom, mfn) >= 0 {
		return api.ErrTwice
	}
	_, e := g.ask(g.refs(), dom, mfn, level+1)
	if e == api.OK {
		g.pins[dom] = append(g.pins[dom], api.Pin{Mfn: mfn, Level: level})
	}
	return e
}

func (g *ghost) pinned(dom, mfn int) int {
	return slices.IndexFunc(g.pins[dom], func(p api.Pin) bool { return p.Mfn == mfn })
}

func (g *ghost) unpin(dom, mfn int) api.Errno {
	if dom < 0 || dom >= api.MaxDoms {
		return api.ErrArg
	}
	i := g.pinned(dom, mfn)
	if i < 0 {
		return api.ErrNone
	}
	g.pins[dom] = slices.Delete(g.pins[dom], i, i+1)
	return api.OK
}

func (g *ghost) base(dom, mfn int) api.Errno {
	if dom < 0 || dom >= api.MaxDoms || mfn < -1 || mfn >= many {
		return api.ErrArg
	}
	if mfn >= 0 {
		if _, e := g.ask(g.refs(), dom, mfn, api.KL2); e != api.OK {
			return e
		}
	}
	g.roots[dom] = mfn
	return api.OK
}

func (g *ghost) drop(dom int) api.Errno {
	if dom < 0 || dom >= api.MaxDoms {
		return api.ErrArg
	}
	g.pins[dom], g.roots[dom] = nil, -1
	return api.OK
}

func (g *ghost) update(dom int, l []api.Update) (int, api.Errno) {
	for i, u := range l {
		if e := g.one(dom, u); e != api.OK {
			return i, e
		}
	}
	return len(l), api.OK
}

func (g *ghost) one(dom int, u api.Update) api.Errno {
	if dom < 0 || dom >= api.MaxDoms || u.Table < 0 || u.Table >= many || u.Index < 0 || u.Index > 63 {
		return api.ErrArg
	}
	if g.owner[u.Table] != dom {
		return api.ErrOwner
	}
	l := g.refs()
	kind := kindIn(l, u.Table)
	if kind < api.KL1 {
		return api.ErrState
	}
	if _, e := g.askEntry(l, dom, kind, u.Value); e != api.OK {
		return e
	}
	g.entries[u.Table][u.Index] = u.Value
	return api.OK
}

// frame is what the machine must tell of a frame.
func (g *ghost) frame(l []ref, mfn int) api.Frame {
	f := api.Frame{Owner: g.owner[mfn], Type: kindIn(l, mfn)}
	for _, r := range l {
		if r.mfn == mfn {
			f.Total++
			if r.kind != api.KNone {
				f.Count++
			}
		}
	}
	return f
}

// alone tells whether no frame is asked to be two things.
func alone(l []ref) bool {
	for _, r := range l {
		if r.kind != api.KNone && kindIn(l, r.mfn) != r.kind {
			return false
		}
	}
	return true
}

func (g *ghost) picture() picture {
	p := picture{roots: g.roots[:], pins: g.pins[:]}
	l := g.refs()
	for mfn := range many {
		p.frames = append(p.frames, g.frame(l, mfn))
		for _, n := range g.entries[mfn] {
			p.bytes = binary.LittleEndian.AppendUint32(p.bytes, n)
		}
	}
	return p
}

// value is an entry's bits, most of them such as may stand.
func (d *dice) value() uint32 {
	low := d.of(0, 0, 0, 1, 1, 1, 1, 3, 3, 3, 3, 3, 3, 2, 254)
	if d.below(40) == 0 {
		low = d.of(5, 7, 129, 255)
	}
	return uint32(d.frame()*256 + low)
}

// frame is a frame's number; the first ones are met oftener than the others, and at times it is none.
func (d *dice) frame() int {
	if d.below(60) == 0 {
		return d.of(many, many+1, api.MaxFrames, 1<<24-1)
	}
	return d.of(d.below(many), d.below(many-2))
}

func (d *dice) dom() int {
	if d.below(60) == 0 {
		return d.of(-2, -1, api.MaxDoms, math.MaxInt, math.MinInt)
	}
	return d.of(0, 0, 0, 0, 0, 0, 1)
}

func (d *dice) updates() []api.Update {
	l := make([]api.Update, d.of(0, 1, 1, 1, 2, 3, 6))
	for i := range l {
		l[i] = api.Update{Table: d.frame(), Index: d.of(0, 1, 2, 62, 63), Value: d.value()}
		if d.below(60) == 0 {
			l[i].Index = d.of(-1, 64, math.MaxInt, math.MinInt)
		}
		if d.below(60) == 0 {
			l[i].Table = d.of(-1, math.MaxInt, math.MinInt)
		}
	}
	return l
}

// pair makes a machine of frames of two domains, one of the hypervisor's and a free one, with tables on it, and its ghost.
func pair(t *testing.T) (*phys.Machine, *mmu.Mmu, *ghost) {
	t.Helper()
	m, _ := phys.New(many)
	g := &ghost{owner: [many]int{0, 0, 0, 0, 0, 0, 0, 1, api.Hyper, api.NoOwner}}
	for mfn, owner := range g.owner[:many-1] {
		if n, e := m.Alloc(owner); n != mfn || e != api.OK {
			t.Fatalf("Alloc(%d) = %d, %v", owner, n, e)
		}
	}
	for dom := range g.roots {
		g.roots[dom] = -1
	}
	return m, mmu.New(m), g
}

// guest lays an entry into a frame that is not in use as a table, as a guest may that has it mapped writable.
func (d *dice) guest(m *phys.Machine, g *ghost) {
	mfn, index, n := d.below(many-1), d.of(0, 1, 2, 62, 63), d.value()
	if kindIn(g.refs(), mfn) >= api.KL1 {
		return
	}
	g.entries[mfn][index] = n
	m.Write(mfn, index*4, binary.LittleEndian.AppendUint32(nil, n))
}

// other takes a reference of the machine itself, or lets one go.
func (d *dice) other(m *phys.Machine, g *ghost) {
	mfn, kind := d.below(many-1), d.of(api.KNone, api.KWrite)
	if i := slices.Index(g.others, ref{mfn, kind}); i >= 0 {
		g.others = slices.Delete(g.others, i, i+1)
		m.Put(mfn, kind)
	} else if m.Get(mfn, g.owner[mfn], kind) == api.OK {
		g.others = append(g.others, ref{mfn, kind})
	}
}

// do does a call to the tables and to their ghost, and tells which one and its error.
func (d *dice) do(t *testing.T, x *mmu.Mmu, g *ghost) [2]int {
	t.Helper()
	dom, mfn, call := d.dom(), d.of(d.frame(), d.frame(), -1), d.of(0, 0, 0, 1, 1, 2, 2, 3, 3, 3, 3, 3, 3, 4)
	var e, ge api.Errno
	n, gn := 0, 0
	switch call {
	case 0:
		level := d.of(1, 1, 1, 1, 2, 2, 2, 2, 0, 3)
		e, ge = x.Pin(dom, mfn, level), g.pin(dom, mfn, level)
	case 1:
		e, ge = x.Unpin(dom, mfn), g.unpin(dom, mfn)
	case 2:
		e, ge = x.Base(dom, mfn), g.base(dom, mfn)
	case 3:
		l := d.updates()
		n, e = x.Update(dom, l)
		gn, ge = g.update(dom, l)
	case 4:
		if d.below(5) != 0 {
			return [2]int{}
		}
		e, ge = x.Drop(dom), g.drop(dom)
	}
	if n != gn || e != ge {
		t.Fatalf("call %d of domain %d, frame %d: %d, %v, not %d, %v", call, dom, mfn, n, e, gn, ge)
	}
	return [2]int{call, int(e)}
}

// P5.5, and with it P5.1 to P5.3 for calls in any order.
func TestAgainstAGhost(t *testing.T) {
	d := new(dice)
	met := map[[2]int]int{}
	for range 300 {
		m, x, g := pair(t)
		for i := range 150 {
			if d.below(3) == 0 {
				d.guest(m, g)
			}
			if d.below(8) == 0 {
				d.other(m, g)
			}
			was := look(m, x)
			c := d.do(t, x, g)
			met[c]++
			now := look(m, x)
			if c[1] != 0 && c[0] != 3 && !now.equal(was) {
				t.Fatalf("step %d: what was refused has changed something", i)
			}
			if !now.equal(g.picture()) || !alone(g.refs()) {
				t.Fatalf("step %d: %+v, not %+v", i, now.frames, g.picture().frames)
			}
		}
	}
	wantMet(t, met)
}

// wantMet asks that each error that a call can tell was told.
func wantMet(t *testing.T, met map[[2]int]int) {
	t.Helper()
	for call, l := range [][]api.Errno{
		{api.OK, api.ErrArg, api.ErrTwice, api.ErrForm, api.ErrOwner, api.ErrType},
		{api.OK, api.ErrArg, api.ErrNone},
		{api.OK, api.ErrArg, api.ErrForm, api.ErrOwner, api.ErrType},
		{api.OK, api.ErrArg, api.ErrForm, api.ErrOwner, api.ErrType, api.ErrState},
		{api.OK, api.ErrArg},
	} {
		for _, e := range l {
			if met[[2]int{call, int(e)}] < 10 {
				t.Errorf("call %d has answered %v too seldom: %v", call, e, met)
			}
		}
	}
}

// P5.5: when all is dropped, nothing is left but what others took.
func TestAllDropped(t *testing.T) {
	d := new(dice)
	for range 100 {
		m, x, g := pair(t)
		for range 100 {
			d.guest(m, g)
			d.other(m, g)
			d.do(t, x, g)
		}
		for dom := range api.MaxDoms {
			want(t, "Drop", x.Drop(dom), api.OK)
		}
		for mfn := range many {
			if f, _ := m.Frame(mfn); f != g.frame(g.others, mfn) {
				t.Fatalf("frame %d: %+v, not %+v", mfn, f, g.frame(g.others, mfn))
			}
		}
	}
}

// P5.5: the greatest tables that there are go into use and out of it.
func TestGreatTables(t *testing.T) {
	m, _ := phys.New(api.MaxFrames)
	for range api.MaxFrames {
		m.Alloc(7)
	}
	x := mmu.New(m)
	for i := range api.Entries {
		layAt(t, m, 0, i, writable(uint32(1+i)))
		for k := range api.Entries {
			layAt(t, m, 1+i, k, writable(uint32(100+(i+k)%150)))
		}
	}
	want(t, "Base", x.Base(7, 0), api.OK)
	wantFrame(t, m, 1, api.KL1, 1, 1)
	wantFrame(t, m, 64, api.KL1, 1, 1)
	wantFrame(t, m, 163, api.KWrite, 64, 64)
	// The last entry of the last table is the one that errs.
	want(t, "Base", x.Base(7, -1), api.OK)
	layAt(t, m, 64, 63, writable(64))
	refused(t, m, x, func() {
		want(t, "Base", x.Base(7, 0), api.ErrType)
	})
	for mfn := range api.MaxFrames {
		wantFrame(t, m, mfn, api.KNone, 0, 0)
	}
}

// P1, P2: no call panics or changes anything, when the numbers that it is given can't be.
func TestNumbersAtTheirEnds(t *testing.T) {
	m, x := machine(t)
	lay(t, m, root, readable(table))
	want(t, "Base", x.Base(0, root), api.OK)
	want(t, "Pin", x.Pin(0, table2, 1), api.OK)
	ends := []int{math.MinInt, math.MinInt + 1, math.MinInt32, -257, -2, 257, math.MaxInt32, math.MaxInt - 1, math.MaxInt}
	refused(t, m, x, func() {
		for _, a := range ends {
			for _, b := range append(ends, 0, 1) {
				x.Pin(a, b, 1)
				x.Pin(0, a, b)
				x.Pin(0, b, a)
				x.Unpin(a, b)
				x.Unpin(b, a)
				x.Base(a, b)
				x.Base(b, a)
				x.Root(a)
				x.Pins(a)
				x.Drop(a)
				for _, n := range []uint32{0, 1, 3, 1 << 31, math.MaxUint32} {
					x.Update(a, []api.Update{{Table: b, Value: n}})
					x.Update(0, []api.Update{{Table: a, Index: b, Value: n}})
					x.Update(0, []api.Update{{Table: b, Index: a, Value: n}})
				}
			}
		}
	})
}

// P5: the same calls tell the same, whatever was done to other tables.
func TestSameCallsSameAnswers(t *testing.T) {
	var last picture
	for round := range 2 {
		m, x, g := pair(t)
		_, y, h := pair(t)
		d, other := new(dice), dice(round+7)
		for range 200 {
			d.guest(m, g)
			d.do(t, x, g)
			other.do(t, y, h)
		}
		if round == 1 && !last.equal(look(m, x)) {
			t.Error("two machines with the same calls are not the same")
		}
		last = look(m, x)
	}
}
