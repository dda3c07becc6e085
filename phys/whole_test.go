package phys_test

import (
	"math"
	"slices"
	"testing"

	"tenement/api"
	"tenement/phys"
)

// picture is all that a machine of at most eight frames tells; pictures are compared by ==.
type picture struct {
	size, left int
	frames     [8]api.Frame
	bytes      [8]string
}

func look(m *phys.Machine) picture {
	p := picture{size: m.Size(), left: m.Left()}
	for mfn := range m.Size() {
		p.frames[mfn], _ = m.Frame(mfn)
		b, _ := m.Read(mfn, 0, api.PageBytes)
		p.bytes[mfn] = string(b)
	}
	return p
}

// ghost reckons a machine's frames anew, by lists of references instead of counts.
type ghost struct {
	owner [8]int
	refs  [8][]int
	bytes [8][api.PageBytes]byte
}

func newGhost() *ghost {
	g := &ghost{}
	for mfn := range g.owner {
		g.owner[mfn] = api.NoOwner
	}
	return g
}

func (g *ghost) frame(mfn int) api.Frame {
	f := api.Frame{Owner: g.owner[mfn], Total: len(g.refs[mfn])}
	for _, kind := range g.refs[mfn] {
		if kind != api.KNone {
			f.Type = kind
			f.Count++
		}
	}
	return f
}

func (g *ghost) picture() picture {
	p := picture{size: 8}
	for mfn := range g.owner {
		p.frames[mfn] = g.frame(mfn)
		p.bytes[mfn] = string(g.bytes[mfn][:])
		if g.owner[mfn] == api.NoOwner {
			p.left++
		}
	}
	return p
}

// call is one of a machine's calls that change something, with its arguments.
type call struct{ what, mfn, owner, kind, off int }

func (c call) on(m *phys.Machine) (int, api.Errno) {
	switch c.what {
	case 0:
		return m.Alloc(c.owner)
	case 1:
		return 0, m.Free(c.mfn)
	case 2:
		return 0, m.Give(c.mfn, c.owner)
	case 3:
		return 0, m.Get(c.mfn, c.owner, c.kind)
	case 4:
		return 0, m.Put(c.mfn, c.kind)
	}
	return 0, m.Write(c.mfn, c.off, []byte{byte(c.off), 255})
}

func (c call) onGhost(g *ghost) (int, api.Errno) {
	dom := c.owner >= 0 && c.owner < api.MaxDoms
	if c.what == 0 {
		mfn := slices.Index(g.owner[:], api.NoOwner)
		if !dom && c.owner != api.Hyper {
			return 0, api.ErrArg
		} else if mfn < 0 {
			return 0, api.ErrNoFrames
		}
		g.owner[mfn] = c.owner
		return mfn, api.OK
	}
	if c.mfn < 0 || c.mfn >= 8 || c.what == 2 && !dom || (c.what == 3 || c.what == 4) && (c.kind < 0 || c.kind > 3) || c.what == 5 && (c.off < 0 || c.off > 254) {
		return 0, api.ErrArg
	}
	return 0, c.onFrame(g)
}

// onFrame does a call whose arguments can be.
func (c call) onFrame(g *ghost) api.Errno {
	at := slices.Index(g.refs[c.mfn], c.kind)
	if c.what == 4 {
		if at < 0 {
			return api.ErrCount
		}
		g.refs[c.mfn] = slices.Delete(g.refs[c.mfn], at, at+1)
		return api.OK
	}
	f := g.frame(c.mfn)
	switch {
	case f.Owner == api.NoOwner:
		return api.ErrFree
	case c.what <= 2 && f.Total != 0:
		return api.ErrBusy
	case c.what == 3 && f.Owner != c.owner:
		return api.ErrOwner
	case c.what == 3 && c.kind != 0 && f.Type != 0 && f.Type != c.kind:
		return api.ErrType
	case c.what == 1:
		g.owner[c.mfn], g.bytes[c.mfn] = api.NoOwner, [api.PageBytes]byte{}
	case c.what == 2:
		g.owner[c.mfn] = c.owner
	case c.what == 3:
		g.refs[c.mfn] = append(g.refs[c.mfn], c.kind)
	default:
		copy(g.bytes[c.mfn][c.off:], []byte{byte(c.off), 255})
	}
	return api.OK
}

// calls makes n calls by a fixed rule, most of them such as may go well.
func calls(n int) []call {
	x := uint32(1)
	next := func(l ...int) int {
		x = x*1664525 + 1013904223
		return l[int(x>>16)%len(l)]
	}
	var l []call
	for range n {
		l = append(l, call{
			what:  next(0, 1, 2, 3, 3, 3, 4, 4, 4, 5),
			mfn:   next(0, 1, 2, 3, 4, 5, 6, 7, 0, 1, 2, 3, 4, 5, 6, 7, -1, 8, math.MaxInt),
			owner: next(0, 0, 0, 0, 0, 0, 7, api.Hyper, api.NoOwner, 8),
			kind:  next(0, 1, 2, 3, 0, 1, 2, 3, 0, 1, 2, 3, -1, 4),
			off:   next(0, 1, 100, 253, 254, 255, -1, math.MaxInt),
		})
	}
	return l
}

// P1.5, and with it P1.1 to P1.3 for calls in any order.
func TestAgainstAGhost(t *testing.T) {
	m, _ := phys.New(8)
	g := newGhost()
	met := map[api.Errno]int{}
	for i, c := range calls(40000) {
		was := look(m)
		n, e := c.on(m)
		gn, ge := c.onGhost(g)
		met[e]++
		if n != gn || e != ge {
			t.Fatalf("call %d, %+v = %d, %v, not %d, %v", i, c, n, e, gn, ge)
		}
		now := look(m)
		if e != api.OK && now != was {
			t.Fatalf("call %d, %+v was refused with %v and has changed something", i, c, e)
		}
		if now != g.picture() {
			t.Fatalf("call %d, %+v: the frames are not as they must be", i, c)
		}
		wantParts(t, m)
	}
	for _, e := range []api.Errno{api.OK, api.ErrArg, api.ErrBusy, api.ErrNoFrames, api.ErrFree, api.ErrOwner, api.ErrType, api.ErrCount} {
		if met[e] == 0 {
			t.Errorf("%v was not met", e)
		}
	}
}

// wantParts asks that each frame is one owner's, and that a free one has no reference and no byte.
func wantParts(t *testing.T, m *phys.Machine) {
	t.Helper()
	var all []int
	for owner := api.Hyper; owner < api.MaxDoms; owner++ {
		l := m.Owned(owner)
		if !slices.IsSorted(l) {
			t.Fatalf("Owned(%d) = %v", owner, l)
		}
		all = append(all, l...)
	}
	slices.Sort(all)
	if !slices.Equal(all, []int{0, 1, 2, 3, 4, 5, 6, 7}) {
		t.Fatalf("all owned frames: %v", all)
	}
	free := m.Owned(api.NoOwner)
	if len(free) != m.Left() {
		t.Fatalf("free frames %v, left %d", free, m.Left())
	}
	for _, mfn := range free {
		f, _ := m.Frame(mfn)
		b, _ := m.Read(mfn, 0, api.PageBytes)
		if f != (api.Frame{Owner: api.NoOwner}) || string(b) != string(make([]byte, api.PageBytes)) {
			t.Fatalf("free frame %d: %+v, %x", mfn, f, b)
		}
	}
}

// P1, P2: no call panics or changes anything, when the numbers that it is given can't be.
func TestNumbersAtTheirEnds(t *testing.T) {
	m := machine(t)
	was := look(m)
	ends := []int{math.MinInt, math.MinInt + 1, math.MinInt32, -257, -1, 257, math.MaxInt32, math.MaxInt - 1, math.MaxInt}
	for _, a := range ends {
		m.Alloc(a)
		m.Free(a)
		m.Frame(a)
		m.Owned(a)
		for _, b := range ends {
			m.Give(a, b)
			m.Give(0, b)
			m.Put(a, b)
			m.Put(0, b)
			m.Write(a, b, []byte{1})
			m.Write(0, b, []byte{1})
			for _, c := range ends {
				m.Get(a, b, c)
				m.Get(0, 0, c)
				m.Read(a, b, c)
				m.Read(0, b, c)
			}
		}
	}
	if look(m) != was {
		t.Error("something has changed")
	}
}

// P5: the same calls tell the same, whatever was done to other machines.
func TestSameCallsSameAnswers(t *testing.T) {
	a, _ := phys.New(8)
	b, _ := phys.New(8)
	other, _ := phys.New(8)
	l := calls(2000)
	for _, c := range l {
		c.on(a)
	}
	for i, c := range l {
		c.on(b)
		l[len(l)-1-i].on(other)
	}
	if look(a) != look(b) {
		t.Error("two machines with the same calls are not the same")
	}
}

// The chapter's example.
func TestExample(t *testing.T) {
	m, _ := phys.New(2)
	if n, e := m.Alloc(0); n != 0 || e != api.OK {
		t.Errorf("Alloc(0) = %d, %v", n, e)
	}
	if n, e := m.Alloc(api.Hyper); n != 1 || e != api.OK {
		t.Errorf("Alloc(Hyper) = %d, %v", n, e)
	}
	_, e := m.Alloc(0)
	want(t, "Alloc(0)", e, api.ErrNoFrames)
	want(t, "Get(0, 0, KWrite)", m.Get(0, 0, api.KWrite), api.OK)
	want(t, "Get(0, 0, KL1)", m.Get(0, 0, api.KL1), api.ErrType)
	want(t, "Get(0, 1, KNone)", m.Get(0, 1, api.KNone), api.ErrOwner)
	want(t, "Free(0)", m.Free(0), api.ErrBusy)
	want(t, "Put(0, KL1)", m.Put(0, api.KL1), api.ErrCount)
	want(t, "Put(0, KWrite)", m.Put(0, api.KWrite), api.OK)
	want(t, "Free(0)", m.Free(0), api.OK)
	if m.Left() != 1 {
		t.Errorf("left %d", m.Left())
	}
}
