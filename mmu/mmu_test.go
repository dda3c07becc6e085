package mmu_test

import (
	"bytes"
	"encoding/binary"
	"math"
	"slices"
	"testing"

	"tenement/api"
	"tenement/mmu"
	"tenement/phys"
)

// Frames of a test's machine. All that are not told otherwise are of domain 0, and of noughts.
const (
	root   = 0
	table  = 1
	page   = 2
	spare  = 3
	other  = 4 // of domain 1
	free   = 5
	hyper  = 6
	table2 = 7
	root2  = 8
	size   = 9 // and the number of the first frame that is none
)

var noDomains = []int{math.MinInt, api.Hyper, api.NoOwner, api.MaxDoms, math.MaxInt}

var noFrames = []int{math.MinInt, api.Hyper, size, api.MaxFrames, 1 << 24, math.MaxInt}

// writable and readable are the bits of entries that are present.
func writable(mfn uint32) uint32 { return mfn*256 + 3 }

func readable(mfn uint32) uint32 { return mfn*256 + 1 }

// machine is one without a table in use, and its tables.
func machine(t *testing.T) (*phys.Machine, *mmu.Mmu) {
	t.Helper()
	m, e := phys.New(size)
	want(t, "New", e, api.OK)
	for mfn, owner := range []int{0, 0, 0, 0, 1, 0, api.Hyper, 0, 0} {
		if n, e := m.Alloc(owner); n != mfn || e != api.OK {
			t.Fatalf("Alloc(%d) = %d, %v", owner, n, e)
		}
	}
	want(t, "Free", m.Free(free), api.OK)
	x := mmu.New(m)
	if x == nil {
		t.Fatal("New: none")
	}
	return m, x
}

// lay writes entries into a table, from its first place on.
func lay(t *testing.T, m *phys.Machine, mfn int, l ...uint32) {
	t.Helper()
	for i, n := range l {
		layAt(t, m, mfn, i, n)
	}
}

func layAt(t *testing.T, m *phys.Machine, mfn int, index int, n uint32) {
	t.Helper()
	want(t, "Write", m.Write(mfn, index*4, binary.LittleEndian.AppendUint32(nil, n)), api.OK)
}

func want(t *testing.T, what string, got, e api.Errno) {
	t.Helper()
	if got != e {
		t.Errorf("%s: %v, not %v", what, got, e)
	}
}

// wantFrame asks for a frame's type and counts.
func wantFrame(t *testing.T, m *phys.Machine, mfn int, kind, count, total int) {
	t.Helper()
	if f, _ := m.Frame(mfn); f.Type != kind || f.Count != count || f.Total != total {
		t.Errorf("frame %d: type %d, count %d, total %d, not %d, %d, %d", mfn, f.Type, f.Count, f.Total, kind, count, total)
	}
}

func wantPins(t *testing.T, x *mmu.Mmu, dom int, l ...api.Pin) {
	t.Helper()
	if got := x.Pins(dom); !slices.Equal(got, l) {
		t.Errorf("Pins(%d) = %v, not %v", dom, got, l)
	}
}

func wantRoot(t *testing.T, x *mmu.Mmu, dom int, mfn int) {
	t.Helper()
	if got := x.Root(dom); got != mfn {
		t.Errorf("Root(%d) = %d, not %d", dom, got, mfn)
	}
}

// update does one update of domain 0 and asks for its error.
func update(t *testing.T, x *mmu.Mmu, mfn int, index int, n uint32, e api.Errno) {
	t.Helper()
	done := 0
	if e == api.OK {
		done = 1
	}
	if got, ge := x.Update(0, []api.Update{{Table: mfn, Index: index, Value: n}}); got != done || ge != e {
		t.Errorf("Update(%d, %d, %x) = %d, %v, not %d, %v", mfn, index, n, got, ge, done, e)
	}
}

// refused asks that calls are refused and change nothing.
func refused(t *testing.T, m *phys.Machine, x *mmu.Mmu, f func()) {
	t.Helper()
	was := look(m, x)
	f()
	if !was.equal(look(m, x)) {
		t.Errorf("what was refused has changed something: %+v", look(m, x).frames)
	}
}

// picture is all that a machine and its tables tell.
type picture struct {
	frames []api.Frame
	bytes  []byte
	roots  []int
	pins   [][]api.Pin
}

func look(m *phys.Machine, x *mmu.Mmu) picture {
	p := picture{}
	for mfn := range m.Size() {
		f, _ := m.Frame(mfn)
		b, _ := m.Read(mfn, 0, api.PageBytes)
		p.frames, p.bytes = append(p.frames, f), append(p.bytes, b...)
	}
	for dom := range api.MaxDoms {
		p.roots, p.pins = append(p.roots, x.Root(dom)), append(p.pins, slices.Clone(x.Pins(dom)))
	}
	return p
}

func (p picture) equal(q picture) bool {
	return slices.Equal(p.frames, q.frames) && bytes.Equal(p.bytes, q.bytes) && slices.Equal(p.roots, q.roots) && slices.EqualFunc(p.pins, q.pins, slices.Equal)
}

// P5.1
func TestNew(t *testing.T) {
	if mmu.New(nil) != nil || mmu.New(new(phys.Machine)) != nil {
		t.Error("New of no machine")
	}
	for _, n := range []int{1, api.MaxFrames} {
		m, _ := phys.New(n)
		x := mmu.New(m)
		if x == nil || x.Machine() != m {
			t.Fatalf("New of %d frames", n)
		}
		for dom := range api.MaxDoms {
			wantRoot(t, x, dom, -1)
			wantPins(t, x, dom)
		}
	}
}

// P5.1
func TestPin(t *testing.T) {
	m, x := machine(t)
	lay(t, m, table, writable(page), readable(spare), readable(page), writable(page)-1, writable(page))
	want(t, "Pin", x.Pin(0, table, 1), api.OK)
	wantFrame(t, m, table, api.KL1, 1, 1)
	wantFrame(t, m, page, api.KWrite, 2, 3)
	wantFrame(t, m, spare, api.KNone, 0, 1)
	wantPins(t, x, 0, api.Pin{Mfn: table, Level: 1})
	lay(t, m, root, writable(table), readable(table2), readable(table))
	want(t, "Pin", x.Pin(0, root, 2), api.OK)
	wantFrame(t, m, root, api.KL2, 1, 1)
	wantFrame(t, m, table, api.KL1, 3, 3)
	wantFrame(t, m, table2, api.KL1, 1, 1)
	wantFrame(t, m, page, api.KWrite, 2, 3)
	wantPins(t, x, 0, api.Pin{Mfn: table, Level: 1}, api.Pin{Mfn: root, Level: 2})
	want(t, "Pin of another domain", x.Pin(1, other, 1), api.OK)
	wantPins(t, x, 1, api.Pin{Mfn: other, Level: 1})
	wantPins(t, x, 2)
}

// P5.1
func TestPinIsRefused(t *testing.T) {
	m, x := machine(t)
	want(t, "Pin", x.Pin(0, table, 1), api.OK)
	want(t, "Get", m.Get(spare, 0, api.KWrite), api.OK)
	refused(t, m, x, func() {
		for _, dom := range noDomains {
			want(t, "Pin of no domain", x.Pin(dom, page, 1), api.ErrArg)
			want(t, "Pin of no domain", x.Pin(dom, hyper, 1), api.ErrArg)
		}
		for _, n := range []int{math.MinInt, -1, 0, 3, 4, math.MaxInt} {
			want(t, "Pin at no level", x.Pin(0, page, n), api.ErrArg)
			want(t, "Pin at no level", x.Pin(0, table, n), api.ErrArg)
			want(t, "Pin at no level", x.Pin(0, other, n), api.ErrArg)
		}
		for _, mfn := range append(noFrames, -1) {
			want(t, "Pin of no frame", x.Pin(0, mfn, 1), api.ErrArg)
			want(t, "Pin of no frame", x.Pin(0, mfn, 2), api.ErrArg)
		}
		for _, n := range []int{1, 2} {
			want(t, "Pin twice", x.Pin(0, table, n), api.ErrTwice)
			want(t, "Pin of another's", x.Pin(1, table, n), api.ErrOwner)
			want(t, "Pin of another's", x.Pin(0, other, n), api.ErrOwner)
			want(t, "Pin of the hypervisor's", x.Pin(0, hyper, n), api.ErrOwner)
			want(t, "Pin of a free one", x.Pin(0, free, n), api.ErrOwner)
			want(t, "Pin of a writable one", x.Pin(0, spare, n), api.ErrType)
		}
	})
	want(t, "Base", x.Base(0, root), api.OK)
	refused(t, m, x, func() {
		want(t, "Pin at another level", x.Pin(0, root, 1), api.ErrType)
	})
	want(t, "Pin of a root", x.Pin(0, root, 2), api.OK)
	wantFrame(t, m, root, api.KL2, 2, 2)
}

// P5.1: the errors of a table that is validated, the first entry's ahead of the others'.
func TestValidation(t *testing.T) {
	const low, high = 2, api.Entries - 1
	for _, c := range []struct {
		what  string
		level int
		n     uint32
		e     api.Errno
	}{
		{"a bit that must be 0", 1, writable(page) + 4, api.ErrForm},
		{"a bit that must be 0", 1, readable(1<<24-1) + 128, api.ErrForm},
		{"no frame", 1, readable(size), api.ErrOwner},
		{"no frame", 1, writable(1<<24 - 1), api.ErrOwner},
		{"a free frame", 1, readable(free), api.ErrOwner},
		{"another's frame", 1, readable(other), api.ErrOwner},
		{"the hypervisor's frame", 1, readable(hyper), api.ErrOwner},
		{"the table itself", 1, writable(spare), api.ErrType},
		{"a table", 1, writable(table2), api.ErrType},
		{"a bit that must be 0", 2, readable(table) + 8, api.ErrForm},
		{"no frame", 2, readable(size), api.ErrOwner},
		{"a free frame", 2, readable(free), api.ErrOwner},
		{"another's frame", 2, readable(other), api.ErrOwner},
		{"the table itself", 2, readable(spare), api.ErrType},
		{"a root", 2, readable(root2), api.ErrType},
		{"a table with a bit that must be 0", 2, readable(table), api.ErrForm},
	} {
		for _, at := range []int{low, high} {
			m, x := machine(t)
			want(t, "Pin", x.Pin(0, table2, 1), api.OK)
			want(t, "Base", x.Base(0, root2), api.OK)
			layAt(t, m, table, high, readable(page)+4)
			lay(t, m, spare, readable(page), readable(page))
			layAt(t, m, spare, at, c.n)
			if at < high && c.e != api.ErrOwner {
				layAt(t, m, spare, high, readable(other))
			} else if at < high {
				layAt(t, m, spare, high, writable(spare))
			}
			refused(t, m, x, func() {
				want(t, c.what, x.Pin(0, spare, c.level), c.e)
				if c.level == 2 {
					want(t, c.what, x.Base(0, spare), c.e)
				}
			})
		}
	}
}

// P5.1: what a table refers to twice, or to itself for reading, is no fault.
func TestTablesThatMayBe(t *testing.T) {
	m, x := machine(t)
	lay(t, m, table, readable(table), readable(root), readable(table2), readable(page), writable(page))
	lay(t, m, root, readable(table), readable(table))
	want(t, "Base", x.Base(0, root), api.OK)
	wantFrame(t, m, root, api.KL2, 1, 2)
	wantFrame(t, m, table, api.KL1, 2, 3)
	wantFrame(t, m, table2, api.KNone, 0, 1)
	wantFrame(t, m, page, api.KWrite, 1, 2)
	want(t, "Pin of what is mapped for reading", x.Pin(0, table2, 2), api.OK)
	want(t, "Base", x.Base(0, -1), api.OK)
	wantFrame(t, m, root, api.KNone, 0, 0)
	wantFrame(t, m, table, api.KNone, 0, 0)
	wantFrame(t, m, page, api.KNone, 0, 0)
	wantFrame(t, m, table2, api.KL2, 1, 1)
}

// P5.1: a frame is validated once, and what a table that is refused has brought into use is in use no more.
func TestValidatedOnce(t *testing.T) {
	m, x := machine(t)
	lay(t, m, table, writable(page))
	lay(t, m, root, readable(table), readable(table2), readable(table), readable(other))
	refused(t, m, x, func() {
		want(t, "Pin", x.Pin(0, root, 2), api.ErrOwner)
	})
	want(t, "Pin", x.Pin(0, table, 1), api.OK)
	refused(t, m, x, func() {
		want(t, "Pin", x.Pin(0, root, 2), api.ErrOwner)
	})
	layAt(t, m, root, 3, 0)
	want(t, "Pin", x.Pin(0, root, 2), api.OK)
	wantFrame(t, m, page, api.KWrite, 1, 1)
	want(t, "Unpin", x.Unpin(0, table), api.OK)
	wantFrame(t, m, table, api.KL1, 2, 2)
	wantFrame(t, m, page, api.KWrite, 1, 1)
	want(t, "Unpin", x.Unpin(0, root), api.OK)
	wantFrame(t, m, table, api.KNone, 0, 0)
	wantFrame(t, m, page, api.KNone, 0, 0)
}

// P5.1: a reference as a table that others took of phys is one too.
func TestTableOfOthers(t *testing.T) {
	m, x := machine(t)
	lay(t, m, table, writable(page))
	want(t, "Pin", x.Pin(0, table, 1), api.OK)
	want(t, "Get", m.Get(table, 0, api.KL1), api.OK)
	want(t, "Unpin", x.Unpin(0, table), api.OK)
	wantFrame(t, m, table, api.KL1, 1, 1)
	wantFrame(t, m, page, api.KWrite, 1, 1)
	y := mmu.New(m)
	want(t, "Pin by other tables", y.Pin(0, table, 1), api.OK)
	want(t, "Put", m.Put(table, api.KL1), api.OK)
	wantFrame(t, m, page, api.KWrite, 1, 1)
	want(t, "Unpin", y.Unpin(0, table), api.OK)
	wantFrame(t, m, table, api.KNone, 0, 0)
	wantFrame(t, m, page, api.KNone, 0, 0)
}

// P5.5: a reference of the tables' that somebody else has let go is not let go again.
func TestWhatOthersLetGo(t *testing.T) {
	m, x := machine(t)
	lay(t, m, table, writable(page))
	want(t, "Pin", x.Pin(0, table, 1), api.OK)
	want(t, "Get", m.Get(page, 0, api.KWrite), api.OK)
	want(t, "Put", m.Put(table, api.KL1), api.OK)
	want(t, "Unpin", x.Unpin(0, table), api.OK)
	wantFrame(t, m, page, api.KWrite, 2, 2)
}

// P5.1
func TestUnpin(t *testing.T) {
	m, x := machine(t)
	for i, mfn := range []int{page, root, spare, table} {
		want(t, "Pin", x.Pin(0, mfn, 1+i%2), api.OK)
	}
	want(t, "Pin", x.Pin(1, other, 1), api.OK)
	refused(t, m, x, func() {
		for _, dom := range noDomains {
			want(t, "Unpin of no domain", x.Unpin(dom, page), api.ErrArg)
			want(t, "Unpin of no domain", x.Unpin(dom, size), api.ErrArg)
		}
		for _, mfn := range append(noFrames, -1, free, hyper, other, table2) {
			want(t, "Unpin of what is not pinned", x.Unpin(0, mfn), api.ErrNone)
		}
		want(t, "Unpin of what another has pinned", x.Unpin(1, page), api.ErrNone)
	})
	was := x.Pins(0)
	want(t, "Unpin", x.Unpin(0, root), api.OK)
	wantFrame(t, m, root, api.KNone, 0, 0)
	wantPins(t, x, 0, api.Pin{Mfn: page, Level: 1}, api.Pin{Mfn: spare, Level: 1}, api.Pin{Mfn: table, Level: 2})
	want(t, "Unpin again", x.Unpin(0, root), api.ErrNone)
	want(t, "Pin", x.Pin(0, root, 1), api.OK)
	want(t, "Unpin", x.Unpin(0, page), api.OK)
	wantPins(t, x, 0, api.Pin{Mfn: spare, Level: 1}, api.Pin{Mfn: table, Level: 2}, api.Pin{Mfn: root, Level: 1})
	if !slices.Equal(was, []api.Pin{{Mfn: page, Level: 1}, {Mfn: root, Level: 2}, {Mfn: spare, Level: 1}, {Mfn: table, Level: 2}}) {
		t.Errorf("what was told ahead is now %v", was)
	}
	for _, mfn := range []int{root, spare, table} {
		want(t, "Unpin", x.Unpin(0, mfn), api.OK)
	}
	wantPins(t, x, 0)
	wantPins(t, x, 1, api.Pin{Mfn: other, Level: 1})
}

// P5.1, P4: what is told is new memory.
func TestPinsAreNew(t *testing.T) {
	m, x := machine(t)
	want(t, "Pin", x.Pin(0, table, 1), api.OK)
	want(t, "Pin", x.Pin(0, table2, 1), api.OK)
	refused(t, m, x, func() {
		l := x.Pins(0)
		l[0] = api.Pin{Mfn: 7, Level: 7}
		_ = append(l[:1], api.Pin{Mfn: 8, Level: 8})
	})
	for _, dom := range noDomains {
		wantPins(t, x, dom)
	}
}

// P5.2
func TestBase(t *testing.T) {
	m, x := machine(t)
	lay(t, m, table, writable(page))
	lay(t, m, root, readable(table))
	lay(t, m, root2, 0, readable(table), writable(table))
	want(t, "Base", x.Base(0, root), api.OK)
	wantRoot(t, x, 0, root)
	wantRoot(t, x, 1, -1)
	wantFrame(t, m, root, api.KL2, 1, 1)
	wantFrame(t, m, table, api.KL1, 1, 1)
	wantFrame(t, m, page, api.KWrite, 1, 1)
	want(t, "Base again", x.Base(0, root), api.OK)
	wantFrame(t, m, root, api.KL2, 1, 1)
	wantFrame(t, m, table, api.KL1, 1, 1)
	want(t, "Base of another frame", x.Base(0, root2), api.OK)
	wantRoot(t, x, 0, root2)
	wantFrame(t, m, root, api.KNone, 0, 0)
	wantFrame(t, m, root2, api.KL2, 1, 1)
	wantFrame(t, m, table, api.KL1, 2, 2)
	wantFrame(t, m, page, api.KWrite, 1, 1)
	want(t, "Base of none", x.Base(0, -1), api.OK)
	wantRoot(t, x, 0, -1)
	wantFrame(t, m, root2, api.KNone, 0, 0)
	wantFrame(t, m, table, api.KNone, 0, 0)
	wantFrame(t, m, page, api.KNone, 0, 0)
	refused(t, m, x, func() {
		want(t, "Base of none again", x.Base(0, -1), api.OK)
	})
	want(t, "Base", x.Base(api.MaxDoms-1, -1), api.OK)
	for _, dom := range noDomains {
		wantRoot(t, x, dom, -1)
	}
	wantPins(t, x, 0)
}

// P5.2: frame 0 is a root as any other is, though its number is what is nought elsewhere.
func TestBaseOfFrame0(t *testing.T) {
	m, x := machine(t)
	want(t, "Base", x.Base(0, 0), api.OK)
	wantRoot(t, x, 0, 0)
	want(t, "Base", x.Base(0, -1), api.OK)
	wantFrame(t, m, 0, api.KNone, 0, 0)
	want(t, "Base", x.Base(0, 0), api.OK)
	want(t, "Base", x.Base(0, root2), api.OK)
	wantFrame(t, m, 0, api.KNone, 0, 0)
}

// P5.2
func TestBaseIsRefused(t *testing.T) {
	m, x := machine(t)
	lay(t, m, table, writable(page))
	lay(t, m, root, readable(table))
	want(t, "Base", x.Base(0, root), api.OK)
	want(t, "Pin", x.Pin(0, table2, 1), api.OK)
	lay(t, m, root2, readable(table2), readable(page))
	refused(t, m, x, func() {
		for _, dom := range noDomains {
			want(t, "Base of no domain", x.Base(dom, root2), api.ErrArg)
			want(t, "Base of no domain", x.Base(dom, -1), api.ErrArg)
		}
		for _, mfn := range noFrames {
			want(t, "Base of no frame", x.Base(0, mfn), api.ErrArg)
		}
		for _, mfn := range []int{other, free, hyper} {
			want(t, "Base of another's", x.Base(0, mfn), api.ErrOwner)
		}
		want(t, "Base of another's", x.Base(1, root), api.ErrOwner)
		want(t, "Base of a table of level 1", x.Base(0, table2), api.ErrType)
		want(t, "Base of what the old root maps writable", x.Base(0, page), api.ErrType)
		want(t, "Base of a table that names such a page", x.Base(0, root2), api.ErrType)
	})
}

// P5.2: a root that is pinned too stays in use behind either of the two.
func TestRootAndPin(t *testing.T) {
	m, x := machine(t)
	lay(t, m, root, readable(table))
	want(t, "Pin", x.Pin(0, root, 2), api.OK)
	want(t, "Base", x.Base(0, root), api.OK)
	wantFrame(t, m, root, api.KL2, 2, 2)
	wantFrame(t, m, table, api.KL1, 1, 1)
	want(t, "Unpin", x.Unpin(0, root), api.OK)
	wantFrame(t, m, root, api.KL2, 1, 1)
	wantFrame(t, m, table, api.KL1, 1, 1)
	want(t, "Pin", x.Pin(0, root, 2), api.OK)
	want(t, "Base", x.Base(0, -1), api.OK)
	wantFrame(t, m, root, api.KL2, 1, 1)
	wantFrame(t, m, table, api.KL1, 1, 1)
}

// P5.3: level 1.
func TestUpdateOfPages(t *testing.T) {
	m, x := machine(t)
	want(t, "Pin", x.Pin(0, table, 1), api.OK)
	for _, c := range []struct {
		n             uint32
		kind, refs    int // of the page
		spare, spare2 int // references to the spare one, and those of them that may write
	}{
		{writable(page), 1, 1, 0, 0},
		{writable(page), 1, 1, 0, 0},
		{readable(page), 0, 1, 0, 0},
		{writable(spare), 0, 0, 1, 1},
		{readable(spare), 0, 0, 1, 0},
		{writable(page) - 1, 0, 0, 0, 0},
		{math.MaxUint32 - 1, 0, 0, 0, 0},
		{readable(table), 0, 0, 0, 0},
		{0, 0, 0, 0, 0},
	} {
		for _, at := range []int{0, 7, api.Entries - 1} {
			update(t, x, table, at, c.n, api.OK)
			b, _ := m.Read(table, at*4, 4)
			if !bytes.Equal(b, binary.LittleEndian.AppendUint32(nil, c.n)) {
				t.Errorf("entry %d is %x, not %x", at, b, c.n)
			}
		}
		wantFrame(t, m, page, c.kind*api.KWrite, 3*c.kind, 3*c.refs)
		wantFrame(t, m, spare, c.spare2*api.KWrite, 3*c.spare2, 3*c.spare)
	}
	wantFrame(t, m, table, api.KL1, 1, 1)
}

// P5.3: level 2, where the tables that an entry names are validated, and go out of use.
func TestUpdateOfTables(t *testing.T) {
	m, x := machine(t)
	lay(t, m, table, writable(page))
	lay(t, m, table2, writable(page), writable(spare))
	want(t, "Base", x.Base(0, root), api.OK)
	update(t, x, root, 63, writable(table), api.OK)
	wantFrame(t, m, table, api.KL1, 1, 1)
	wantFrame(t, m, page, api.KWrite, 1, 1)
	update(t, x, root, 63, readable(table), api.OK)
	wantFrame(t, m, table, api.KL1, 1, 1)
	update(t, x, root, 63, readable(table2), api.OK)
	wantFrame(t, m, table, api.KNone, 0, 0)
	wantFrame(t, m, table2, api.KL1, 1, 1)
	wantFrame(t, m, page, api.KWrite, 1, 1)
	wantFrame(t, m, spare, api.KWrite, 1, 1)
	update(t, x, table2, 1, readable(root), api.OK)
	wantFrame(t, m, spare, api.KNone, 0, 0)
	wantFrame(t, m, root, api.KL2, 1, 2)
	update(t, x, root, 63, 0, api.OK)
	wantFrame(t, m, table2, api.KNone, 0, 0)
	wantFrame(t, m, page, api.KNone, 0, 0)
	wantFrame(t, m, root, api.KL2, 1, 1)
	update(t, x, table2, 1, 0, api.ErrState)
}

// P5.3
func TestUpdateIsRefused(t *testing.T) {
	m, x := machine(t)
	lay(t, m, table2, writable(page), readable(other))
	lay(t, m, table, writable(page))
	lay(t, m, root, readable(table))
	want(t, "Base", x.Base(0, root), api.OK)
	want(t, "Pin", x.Pin(1, other, 1), api.OK)
	refused(t, m, x, func() {
		for _, dom := range noDomains {
			if n, e := x.Update(dom, []api.Update{{Table: root, Index: 0, Value: 0}}); n != 0 || e != api.ErrArg {
				t.Errorf("Update(%d) = %d, %v", dom, n, e)
			}
		}
		for _, mfn := range append(noFrames, -1) {
			update(t, x, mfn, 0, 0, api.ErrArg)
		}
		for _, index := range []int{math.MinInt, -1, api.Entries, math.MaxInt/4 + 1, math.MaxInt} {
			update(t, x, table, index, 0, api.ErrArg)
			update(t, x, other, index, 0, api.ErrArg)
		}
		for _, mfn := range []int{other, free, hyper} {
			update(t, x, mfn, 0, 0, api.ErrOwner)
		}
		for _, mfn := range []int{page, spare, table2} {
			update(t, x, mfn, 0, readable(page)+4, api.ErrState)
		}
		for _, mfn := range []int{root, table} {
			update(t, x, mfn, 0, readable(other)+4, api.ErrForm)
			update(t, x, mfn, 0, readable(other), api.ErrOwner)
			update(t, x, mfn, 0, readable(free), api.ErrOwner)
			update(t, x, mfn, 0, writable(hyper), api.ErrOwner)
			update(t, x, mfn, 0, readable(size), api.ErrOwner)
			update(t, x, mfn, 0, writable(1<<24-1), api.ErrOwner)
			update(t, x, mfn, 0, writable(root), api.ErrType)
		}
		update(t, x, table, 1, writable(table), api.ErrType)
		update(t, x, root, 0, readable(page), api.ErrType)
		update(t, x, root, 0, readable(table2), api.ErrOwner)
	})
}

// P5.3: the new reference is taken while the old one stands.
func TestNewAheadOfOld(t *testing.T) {
	m, x := machine(t)
	lay(t, m, table, writable(table2))
	want(t, "Base", x.Base(0, root), api.OK)
	update(t, x, root, 0, readable(table), api.OK)
	refused(t, m, x, func() {
		update(t, x, root, 0, readable(table2), api.ErrType)
	})
	update(t, x, root, 0, 0, api.OK)
	update(t, x, root, 0, readable(table2), api.OK)
}

// P5.3: the first that errs ends it, and what was done ahead of it stays.
func TestUpdates(t *testing.T) {
	m, x := machine(t)
	want(t, "Pin", x.Pin(0, table, 1), api.OK)
	l := []api.Update{
		{Table: table, Index: 0, Value: writable(page)},
		{Table: table, Index: 1, Value: writable(page)},
		{Table: table, Index: 0, Value: 0},
		{Table: table, Index: 2, Value: readable(other)},
		{Table: table, Index: 3, Value: writable(spare)},
	}
	was := slices.Clone(l)
	if n, e := x.Update(0, l); n != 3 || e != api.ErrOwner {
		t.Errorf("Update = %d, %v", n, e)
	}
	if !slices.Equal(l, was) {
		t.Errorf("the list that was handed in is now %v", l)
	}
	wantFrame(t, m, page, api.KWrite, 1, 1)
	wantFrame(t, m, spare, api.KNone, 0, 0)
	if n, e := x.Update(0, l[:3]); n != 3 || e != api.OK {
		t.Errorf("Update = %d, %v", n, e)
	}
	refused(t, m, x, func() {
		for _, dom := range append(noDomains, 0, 1) {
			for _, l := range [][]api.Update{nil, {}} {
				if n, e := x.Update(dom, l); n != 0 || e != api.OK {
					t.Errorf("Update(%d) of none = %d, %v", dom, n, e)
				}
			}
		}
	})
}

// P5.3
func TestDrop(t *testing.T) {
	m, x := machine(t)
	lay(t, m, table, writable(page))
	lay(t, m, root, readable(table))
	want(t, "Pin", x.Pin(0, table, 1), api.OK)
	want(t, "Pin", x.Pin(0, root, 2), api.OK)
	want(t, "Pin", x.Pin(0, table2, 1), api.OK)
	want(t, "Base", x.Base(0, root), api.OK)
	want(t, "Pin", x.Pin(1, other, 2), api.OK)
	want(t, "Base", x.Base(1, other), api.OK)
	want(t, "Get", m.Get(page, 0, api.KWrite), api.OK)
	refused(t, m, x, func() {
		for _, dom := range noDomains {
			want(t, "Drop of no domain", x.Drop(dom), api.ErrArg)
		}
		want(t, "Drop of a domain that has none", x.Drop(2), api.OK)
	})
	want(t, "Drop", x.Drop(0), api.OK)
	for _, mfn := range []int{root, table, table2} {
		wantFrame(t, m, mfn, api.KNone, 0, 0)
	}
	wantFrame(t, m, page, api.KWrite, 1, 1)
	wantFrame(t, m, other, api.KL2, 2, 2)
	wantPins(t, x, 0)
	wantRoot(t, x, 0, -1)
	wantPins(t, x, 1, api.Pin{Mfn: other, Level: 2})
	wantRoot(t, x, 1, other)
	want(t, "Drop again", x.Drop(0), api.OK)
	want(t, "Pin", x.Pin(0, table, 1), api.OK)
	wantPins(t, x, 0, api.Pin{Mfn: table, Level: 1})
	want(t, "Drop without a root", x.Drop(0), api.OK)
	wantPins(t, x, 0)
}

// P5.4
func TestNoTables(t *testing.T) {
	for _, x := range []*mmu.Mmu{nil, new(mmu.Mmu)} {
		for _, dom := range []int{0, -1, api.MaxDoms} {
			want(t, "Pin", x.Pin(dom, 0, 1), api.ErrZero)
			want(t, "Unpin", x.Unpin(dom, 0), api.ErrZero)
			want(t, "Base", x.Base(dom, 0), api.ErrZero)
			want(t, "Base", x.Base(dom, -1), api.ErrZero)
			want(t, "Drop", x.Drop(dom), api.ErrZero)
			wantRoot(t, x, dom, -1)
			wantPins(t, x, dom)
			for _, l := range [][]api.Update{nil, {{}}, {{Table: -1}, {}}} {
				if n, e := x.Update(dom, l); n != 0 || e != api.ErrZero {
					t.Errorf("Update = %d, %v", n, e)
				}
			}
		}
		if x.Machine() != nil {
			t.Error("Machine of none")
		}
	}
}

// The chapter's example.
func TestExample(t *testing.T) {
	m, _ := phys.New(3)
	for range 3 {
		m.Alloc(0)
	}
	x := mmu.New(m)
	want(t, "Pin(0, 0, 1)", x.Pin(0, 0, 1), api.OK)
	wantFrame(t, m, 0, api.KL1, 1, 1)
	update(t, x, 0, 0, 0x103, api.OK)
	wantFrame(t, m, 1, api.KWrite, 1, 1)
	want(t, "Pin(0, 1, 1)", x.Pin(0, 1, 1), api.ErrType)
	update(t, x, 0, 1, 3, api.ErrType)
	update(t, x, 0, 0, 0, api.OK)
	want(t, "Pin(0, 1, 1)", x.Pin(0, 1, 1), api.OK)
}
