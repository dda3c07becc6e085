package phys_test

import (
	"bytes"
	"math"
	"slices"
	"testing"

	"tenement/api"
	"tenement/phys"
)

var noFrames = []int{math.MinInt, -1, 4, 5, api.MaxFrames, math.MaxInt}

var noKinds = []int{math.MinInt, -1, 4, math.MaxInt}

var noDomains = []int{math.MinInt, -3, api.NoOwner, api.MaxDoms, math.MaxInt}

// machine is one of four frames: 0 and 1 are domain 0's, 2 is the hypervisor's, 3 is free.
func machine(t *testing.T) *phys.Machine {
	t.Helper()
	m, e := phys.New(4)
	if e != api.OK {
		t.Fatalf("New(4): %v", e)
	}
	for mfn, owner := range []int{0, 0, api.Hyper} {
		if n, e := m.Alloc(owner); n != mfn || e != api.OK {
			t.Fatalf("Alloc(%d) = %d, %v", owner, n, e)
		}
	}
	return m
}

func want(t *testing.T, what string, got, e api.Errno) {
	t.Helper()
	if got != e {
		t.Errorf("%s: %v, not %v", what, got, e)
	}
}

func wantFrame(t *testing.T, m *phys.Machine, mfn int, f api.Frame) {
	t.Helper()
	if got, e := m.Frame(mfn); got != f || e != api.OK {
		t.Errorf("Frame(%d) = %+v, %v, not %+v", mfn, got, e, f)
	}
}

func wantBytes(t *testing.T, m *phys.Machine, mfn int, off int, b []byte) {
	t.Helper()
	if got, e := m.Read(mfn, off, len(b)); !bytes.Equal(got, b) || e != api.OK {
		t.Errorf("Read(%d, %d, %d) = %x, %v, not %x", mfn, off, len(b), got, e, b)
	}
}

// page is a page's bytes, none of which is 0.
func page() []byte {
	b := make([]byte, api.PageBytes)
	for i := range b {
		b[i] = byte(i%255 + 1)
	}
	return b
}

// P1.1

func TestNew(t *testing.T) {
	for _, n := range []int{math.MinInt, -1, 0, api.MaxFrames + 1, math.MaxInt} {
		if m, e := phys.New(n); m != nil || e != api.ErrArg {
			t.Errorf("New(%d): %v, %v", n, m != nil, e)
		}
	}
	for _, n := range []int{1, 2, api.MaxFrames} {
		m, e := phys.New(n)
		if e != api.OK || m.Size() != n || m.Left() != n {
			t.Fatalf("New(%d): size %d, left %d, %v", n, m.Size(), m.Left(), e)
		}
		for mfn := range n {
			wantFrame(t, m, mfn, api.Frame{Owner: api.NoOwner})
			wantBytes(t, m, mfn, 0, make([]byte, api.PageBytes))
		}
		if _, e := m.Frame(n); e != api.ErrArg {
			t.Errorf("Frame(%d) of %d frames: %v", n, n, e)
		}
	}
}

func TestAlloc(t *testing.T) {
	m, _ := phys.New(api.MaxDoms + 1)
	for _, owner := range noDomains {
		if n, e := m.Alloc(owner); n != 0 || e != api.ErrArg {
			t.Errorf("Alloc(%d) = %d, %v", owner, n, e)
		}
	}
	for i, owner := range []int{api.Hyper, 0, 1, 2, 3, 4, 5, 6, 7} {
		if n, e := m.Alloc(owner); n != i || e != api.OK {
			t.Errorf("Alloc(%d) = %d, %v", owner, n, e)
		}
		wantFrame(t, m, i, api.Frame{Owner: owner})
		if m.Left() != api.MaxDoms-i || m.Size() != api.MaxDoms+1 {
			t.Errorf("left %d of %d behind %d frames", m.Left(), m.Size(), i+1)
		}
	}
	if n, e := m.Alloc(0); n != 0 || e != api.ErrNoFrames {
		t.Errorf("one frame too many = %d, %v", n, e)
	}
	if n, e := m.Alloc(api.NoOwner); n != 0 || e != api.ErrArg {
		t.Errorf("no owner and no frame = %d, %v", n, e)
	}
}

func TestAllocTakesTheLeast(t *testing.T) {
	m, _ := phys.New(5)
	for range 5 {
		m.Alloc(1)
	}
	for _, mfn := range []int{3, 1, 4} {
		want(t, "Free", m.Free(mfn), api.OK)
	}
	for _, mfn := range []int{1, 3, 4} {
		if n, e := m.Alloc(2); n != mfn || e != api.OK {
			t.Errorf("Alloc = %d, %v, not %d", n, e, mfn)
		}
	}
}

func TestFree(t *testing.T) {
	m := machine(t)
	for _, mfn := range noFrames {
		want(t, "Free of no frame", m.Free(mfn), api.ErrArg)
	}
	want(t, "Free of a free one", m.Free(3), api.ErrFree)
	for kind := api.KNone; kind <= api.KL2; kind++ {
		m.Get(0, 0, kind)
		want(t, "Free of a busy one", m.Free(0), api.ErrBusy)
		m.Put(0, kind)
	}
	for _, mfn := range []int{0, 2} {
		m.Write(mfn, 0, page())
		m.Write(1, 0, page())
		want(t, "Free", m.Free(mfn), api.OK)
		wantFrame(t, m, mfn, api.Frame{Owner: api.NoOwner})
		wantBytes(t, m, mfn, 0, make([]byte, api.PageBytes))
		wantBytes(t, m, 1, 0, page())
		want(t, "Free once more", m.Free(mfn), api.ErrFree)
	}
	if m.Left() != 3 {
		t.Errorf("left %d", m.Left())
	}
}

func TestGive(t *testing.T) {
	m := machine(t)
	for _, mfn := range noFrames {
		want(t, "Give of no frame", m.Give(mfn, 1), api.ErrArg)
	}
	for _, to := range append(noDomains, api.Hyper) {
		want(t, "Give to no domain", m.Give(0, to), api.ErrArg)
		want(t, "Give of a free one to no domain", m.Give(3, to), api.ErrArg)
	}
	want(t, "Give of a free one", m.Give(3, 1), api.ErrFree)
	m.Get(0, 0, api.KNone)
	want(t, "Give of a busy one", m.Give(0, 1), api.ErrBusy)
	wantFrame(t, m, 0, api.Frame{Owner: 0, Total: 1})
	m.Put(0, api.KNone)
	for _, mfn := range []int{0, 2} {
		m.Write(mfn, 0, page())
		for _, to := range []int{0, 0, 7} {
			want(t, "Give", m.Give(mfn, to), api.OK)
			wantFrame(t, m, mfn, api.Frame{Owner: to})
			wantBytes(t, m, mfn, 0, page())
		}
	}
	if m.Left() != 1 {
		t.Errorf("left %d", m.Left())
	}
}

// P1.2

func TestFrame(t *testing.T) {
	m := machine(t)
	for _, mfn := range noFrames {
		if f, e := m.Frame(mfn); f != (api.Frame{}) || e != api.ErrArg {
			t.Errorf("Frame(%d) = %+v, %v", mfn, f, e)
		}
	}
	wantFrame(t, m, 0, api.Frame{Owner: 0})
	wantFrame(t, m, 2, api.Frame{Owner: api.Hyper})
	wantFrame(t, m, 3, api.Frame{Owner: api.NoOwner})
}

func TestGetErrors(t *testing.T) {
	m := machine(t)
	for _, mfn := range noFrames {
		want(t, "Get of no frame", m.Get(mfn, 0, api.KNone), api.ErrArg)
	}
	for _, kind := range noKinds {
		want(t, "Get of no kind", m.Get(0, 0, kind), api.ErrArg)
		want(t, "Get of no kind of a free one", m.Get(3, 0, kind), api.ErrArg)
	}
	for _, owner := range []int{0, 1, api.Hyper, api.NoOwner, 100} {
		want(t, "Get of a free one", m.Get(3, owner, api.KNone), api.ErrFree)
	}
	for _, owner := range []int{math.MinInt, api.Hyper, api.NoOwner, 1, 8, math.MaxInt} {
		want(t, "Get by another", m.Get(0, owner, api.KWrite), api.ErrOwner)
	}
	want(t, "Get", m.Get(0, 0, api.KWrite), api.OK)
	want(t, "Get by another of another type", m.Get(0, 1, api.KL1), api.ErrOwner)
	wantFrame(t, m, 0, api.Frame{Owner: 0, Type: api.KWrite, Count: 1, Total: 1})
	wantFrame(t, m, 3, api.Frame{Owner: api.NoOwner})
}

func TestGetTypes(t *testing.T) {
	for kind := api.KWrite; kind <= api.KL2; kind++ {
		m := machine(t)
		want(t, "Get of the hypervisor's", m.Get(2, api.Hyper, kind), api.OK)
		want(t, "Get of KNone first", m.Get(0, 0, api.KNone), api.OK)
		wantFrame(t, m, 0, api.Frame{Total: 1})
		want(t, "Get", m.Get(0, 0, kind), api.OK)
		want(t, "Get of the same kind", m.Get(0, 0, kind), api.OK)
		want(t, "Get of KNone", m.Get(0, 0, api.KNone), api.OK)
		f := api.Frame{Type: kind, Count: 2, Total: 4}
		wantFrame(t, m, 0, f)
		for other := api.KWrite; other <= api.KL2; other++ {
			if other != kind {
				want(t, "Get of another kind", m.Get(0, 0, other), api.ErrType)
			}
		}
		wantFrame(t, m, 0, f)
		wantFrame(t, m, 1, api.Frame{})
	}
}

func TestPutErrors(t *testing.T) {
	m := machine(t)
	for _, mfn := range noFrames {
		want(t, "Put of no frame", m.Put(mfn, api.KNone), api.ErrArg)
	}
	for _, kind := range noKinds {
		want(t, "Put of no kind", m.Put(0, kind), api.ErrArg)
	}
	for kind := api.KNone; kind <= api.KL2; kind++ {
		want(t, "Put of none", m.Put(0, kind), api.ErrCount)
		want(t, "Put of a free one", m.Put(3, kind), api.ErrCount)
	}
	m.Get(0, 0, api.KL1)
	for _, kind := range []int{api.KNone, api.KWrite, api.KL2} {
		want(t, "Put of another kind", m.Put(0, kind), api.ErrCount)
	}
	wantFrame(t, m, 0, api.Frame{Type: api.KL1, Count: 1, Total: 1})
	m.Get(1, 0, api.KNone)
	want(t, "Put of KWrite beside KNone", m.Put(1, api.KWrite), api.ErrCount)
	wantFrame(t, m, 1, api.Frame{Total: 1})
}

func TestPut(t *testing.T) {
	for kind := api.KWrite; kind <= api.KL2; kind++ {
		m := machine(t)
		for _, k := range []int{kind, kind, api.KNone} {
			m.Get(0, 0, k)
		}
		want(t, "Put", m.Put(0, kind), api.OK)
		wantFrame(t, m, 0, api.Frame{Type: kind, Count: 1, Total: 2})
		want(t, "Put of KNone", m.Put(0, api.KNone), api.OK)
		wantFrame(t, m, 0, api.Frame{Type: kind, Count: 1, Total: 1})
		want(t, "a second Put of KNone", m.Put(0, api.KNone), api.ErrCount)
		want(t, "the last Put", m.Put(0, kind), api.OK)
		wantFrame(t, m, 0, api.Frame{})
		want(t, "one Put too many", m.Put(0, kind), api.ErrCount)
		want(t, "Get of another kind behind it", m.Get(0, 0, kind%api.KL2+1), api.OK)
	}
}

func TestTypeGoesWithItsLastReference(t *testing.T) {
	m := machine(t)
	m.Get(0, 0, api.KNone)
	m.Get(0, 0, api.KWrite)
	want(t, "Put", m.Put(0, api.KWrite), api.OK)
	wantFrame(t, m, 0, api.Frame{Total: 1})
	want(t, "Get of another kind", m.Get(0, 0, api.KL2), api.OK)
	wantFrame(t, m, 0, api.Frame{Type: api.KL2, Count: 1, Total: 2})
}

// P1.3

func TestOwned(t *testing.T) {
	m, _ := phys.New(9)
	for _, owner := range []int{3, api.Hyper, 7, 3, 0, api.Hyper, 3} {
		m.Alloc(owner)
	}
	for owner, l := range map[int][]int{
		0: {4}, 1: nil, 3: {0, 3, 6}, 7: {2}, api.Hyper: {1, 5}, api.NoOwner: {7, 8},
		8: nil, -3: nil, math.MinInt: nil, math.MaxInt: nil,
	} {
		if got := m.Owned(owner); !slices.Equal(got, l) {
			t.Errorf("Owned(%d) = %v, not %v", owner, got, l)
		}
	}
	m.Owned(3)[0] = 99
	if l := m.Owned(3); !slices.Equal(l, []int{0, 3, 6}) {
		t.Errorf("what was told has been kept: %v", l)
	}
}

func TestReadAndWrite(t *testing.T) {
	m := machine(t)
	for _, mfn := range []int{0, 2} {
		want(t, "Write of a page", m.Write(mfn, 0, page()), api.OK)
		wantBytes(t, m, mfn, 0, page())
		want(t, "Write of an end", m.Write(mfn, 254, []byte{7, 8}), api.OK)
		want(t, "Write of a beginning", m.Write(mfn, 0, []byte{9}), api.OK)
		want(t, "Write of nothing", m.Write(mfn, 256, nil), api.OK)
		want(t, "Write of an empty list", m.Write(mfn, 100, []byte{}), api.OK)
		b := page()
		b[0], b[254], b[255] = 9, 7, 8
		wantBytes(t, m, mfn, 0, b)
		wantBytes(t, m, mfn, 253, b[253:])
		wantBytes(t, m, mfn, 10, b[10:13])
		wantBytes(t, m, mfn, 256, nil)
		wantBytes(t, m, mfn, 0, nil)
	}
	wantBytes(t, m, 1, 0, make([]byte, api.PageBytes))
	wantBytes(t, m, 3, 0, make([]byte, api.PageBytes))
}

func TestReadErrors(t *testing.T) {
	m := machine(t)
	cases := [][3]int{
		{0, -1, 1}, {0, -1, 0}, {0, 0, -1}, {0, 256, -1}, {0, 0, 257}, {0, 256, 1}, {0, 257, 0}, {0, 255, 2}, {0, 257, -1},
		{0, math.MaxInt, math.MaxInt}, {0, 1, math.MaxInt}, {0, math.MaxInt, 1}, {0, math.MaxInt, 0},
		{0, math.MinInt, math.MinInt}, {0, math.MinInt, math.MaxInt}, {0, math.MaxInt, math.MinInt}, {3, 256, 1},
	}
	for _, mfn := range noFrames {
		cases = append(cases, [3]int{mfn, 0, 1}, [3]int{mfn, 0, 0})
	}
	for _, c := range cases {
		if b, e := m.Read(c[0], c[1], c[2]); b != nil || e != api.ErrArg {
			t.Errorf("Read(%d, %d, %d) = %x, %v", c[0], c[1], c[2], b, e)
		}
	}
}

func TestWriteErrors(t *testing.T) {
	m := machine(t)
	m.Write(0, 0, page())
	for _, mfn := range noFrames {
		want(t, "Write to no frame", m.Write(mfn, 0, []byte{1}), api.ErrArg)
		want(t, "Write of nothing to no frame", m.Write(mfn, 0, nil), api.ErrArg)
	}
	for _, off := range []int{math.MinInt, -1, 255, 256, 257, math.MaxInt} {
		want(t, "Write outside", m.Write(0, off, []byte{0, 0}), api.ErrArg)
		want(t, "Write outside of a free one", m.Write(3, off, []byte{1, 1}), api.ErrArg)
	}
	want(t, "Write of too much", m.Write(0, 0, make([]byte, 257)), api.ErrArg)
	want(t, "Write of nothing behind the end", m.Write(0, 257, nil), api.ErrArg)
	want(t, "Write of nothing ahead of the beginning", m.Write(0, -1, nil), api.ErrArg)
	want(t, "Write to a free one", m.Write(3, 0, []byte{1}), api.ErrFree)
	want(t, "Write of nothing to a free one", m.Write(3, 0, nil), api.ErrFree)
	wantBytes(t, m, 0, 0, page())
	wantBytes(t, m, 3, 0, make([]byte, api.PageBytes))
}

func TestListsAreNeitherKeptNorShared(t *testing.T) {
	m := machine(t)
	b := []byte{1, 2, 3}
	m.Write(0, 0, b)
	b[0] = 9
	wantBytes(t, m, 0, 0, []byte{1, 2, 3})
	got, _ := m.Read(0, 0, 3)
	got[1] = 9
	_ = append(got, 9)
	wantBytes(t, m, 0, 0, []byte{1, 2, 3, 0})
	m.Write(0, 0, []byte{5})
	if got[0] != 1 || b[1] != 2 {
		t.Errorf("a list has been changed: %v, %v", got, b)
	}
}

func TestCopy(t *testing.T) {
	m := machine(t)
	m.Write(0, 0, page())
	m.Get(0, 0, api.KL2)
	m.Get(0, 0, api.KNone)
	c := m.Copy()
	if c == nil || c == m || look(c) != look(m) {
		t.Fatal("the copy is another")
	}
	was := look(m)
	c.Put(0, api.KL2)
	c.Put(0, api.KNone)
	c.Write(1, 0, []byte{1})
	c.Free(0)
	c.Alloc(5)
	c.Alloc(5)
	if look(m) != was {
		t.Error("calls on the copy have changed the machine")
	}
	was = look(c)
	m.Write(0, 0, []byte{0})
	m.Free(1)
	if look(c) != was {
		t.Error("calls on the machine have changed the copy")
	}
}

// P1.4

func TestNoMachine(t *testing.T) {
	for _, m := range []*phys.Machine{nil, {}, new(phys.Machine)} {
		if m.Size() != 0 || m.Left() != 0 || m.Copy() != nil {
			t.Error("Size, Left, Copy")
		}
		for _, n := range []int{math.MinInt, api.Hyper, api.NoOwner, 0, 1, api.MaxFrames, math.MaxInt} {
			if a, e := m.Alloc(n); a != 0 || e != api.ErrZero {
				t.Errorf("Alloc(%d) = %d, %v", n, a, e)
			}
			if f, e := m.Frame(n); f != (api.Frame{}) || e != api.ErrZero {
				t.Errorf("Frame(%d) = %+v, %v", n, f, e)
			}
			if b, e := m.Read(n, n, n); b != nil || e != api.ErrZero {
				t.Errorf("Read(%d) = %x, %v", n, b, e)
			}
			if l := m.Owned(n); len(l) != 0 {
				t.Errorf("Owned(%d) = %v", n, l)
			}
			want(t, "Free", m.Free(n), api.ErrZero)
			want(t, "Give", m.Give(n, n), api.ErrZero)
			want(t, "Get", m.Get(n, n, n), api.ErrZero)
			want(t, "Put", m.Put(n, n), api.ErrZero)
			want(t, "Write", m.Write(n, n, nil), api.ErrZero)
			want(t, "Write of a byte", m.Write(n, n, []byte{1}), api.ErrZero)
		}
	}
}
