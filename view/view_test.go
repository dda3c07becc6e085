package view_test

import (
	"bytes"
	"math"
	"slices"
	"testing"

	"tenement/api"
	"tenement/phys"
	"tenement/view"
)

// Frames of a test's machine, by what they are.
const (
	plain  = 0 // domain 0's, nothing refers to it
	table1 = 1 // domain 0's, a page table of the first level
	table2 = 2 // domain 0's, one of the second level
	hyper  = 3 // the hypervisor's
	mapped = 4 // the last domain's, mapped writable
	held   = 5 // the last domain's, held by references that ask for nothing
	free   = 6
	size   = 7
)

// machine is one of size frames, of each kind one.
func machine(t *testing.T) *phys.Machine {
	t.Helper()
	m, e := phys.New(size)
	if e != api.OK {
		t.Fatalf("New: %v", e)
	}
	last := api.MaxDoms - 1
	for mfn, owner := range []int{0, 0, 0, api.Hyper, last, last} {
		if n, e := m.Alloc(owner); n != mfn || e != api.OK {
			t.Fatalf("Alloc(%d) = %d, %v", owner, n, e)
		}
	}
	want(t, "Get", m.Get(table1, 0, api.KL1), api.OK)
	want(t, "Get", m.Get(table2, 0, api.KL2), api.OK)
	want(t, "Get", m.Get(mapped, last, api.KWrite), api.OK)
	want(t, "Get", m.Get(held, last, api.KNone), api.OK)
	return m
}

func made(t *testing.T, m *phys.Machine, l ...api.Poke) *view.View {
	t.Helper()
	v, e := view.New(m, l)
	if v == nil || e != api.OK {
		t.Fatalf("New: %v", e)
	}
	return v
}

func want(t *testing.T, what string, got, e api.Errno) {
	t.Helper()
	if got != e {
		t.Errorf("%s: %v, not %v", what, got, e)
	}
}

// wantRead reads through a view, and asks for those bytes.
func wantRead(t *testing.T, v *view.View, mfn int, off int, b ...byte) {
	t.Helper()
	if got, e := v.Read(mfn, off, len(b)); !bytes.Equal(got, b) || e != api.OK {
		t.Errorf("Read(%d, %d, %d) = %x, %v, not %x", mfn, off, len(b), got, e, b)
	}
}

// wantBytes looks at the machine itself, which is no read of a view.
func wantBytes(t *testing.T, m *phys.Machine, mfn int, off int, b ...byte) {
	t.Helper()
	if got, e := m.Read(mfn, off, len(b)); !bytes.Equal(got, b) || e != api.OK {
		t.Errorf("frame %d has at %d %x, %v, not %x", mfn, off, got, e, b)
	}
}

func wantCounts(t *testing.T, v *view.View, reads, rest int) {
	t.Helper()
	if v.Reads() != reads || v.Rest() != rest {
		t.Errorf("Reads %d, Rest %d, not %d, %d", v.Reads(), v.Rest(), reads, rest)
	}
}

// bytesOf are all bytes of a machine's frames.
func bytesOf(m *phys.Machine) string {
	var all []byte
	for mfn := range m.Size() {
		b, _ := m.Read(mfn, 0, api.PageBytes)
		all = append(all, b...)
	}
	return string(all)
}

// P2.1

func TestNew(t *testing.T) {
	for _, m := range []*phys.Machine{nil, {}} {
		for _, n := range []int{0, 1, api.MaxPokes, api.MaxPokes + 1} {
			if v, e := view.New(m, make([]api.Poke, n)); v != nil || e != api.ErrZero {
				t.Errorf("New of no machine with %d rewrites: %v, %v", n, v != nil, e)
			}
		}
	}
	m := machine(t)
	for _, n := range []int{api.MaxPokes + 1, 1000} {
		if v, e := view.New(m, make([]api.Poke, n)); v != nil || e != api.ErrLong {
			t.Errorf("New with %d rewrites: %v, %v", n, v != nil, e)
		}
	}
	for _, l := range [][]api.Poke{nil, {}, make([]api.Poke, 1), make([]api.Poke, api.MaxPokes)} {
		v := made(t, m, l...)
		wantCounts(t, v, 0, len(l))
		if v.Machine() != m {
			t.Error("Machine is another")
		}
	}
}

func TestNewDoesNothing(t *testing.T) {
	m := machine(t)
	was := bytesOf(m)
	made(t, m, api.Poke{Bytes: []byte{1}}, api.Poke{At: -1, Bytes: []byte{1}})
	if bytesOf(m) != was {
		t.Error("a rewrite has been done ahead of all reads")
	}
}

func TestAllRewritesAreDone(t *testing.T) {
	m := machine(t)
	var l []api.Poke
	for i := range api.MaxPokes {
		l = append(l, api.Poke{At: i, Off: i, Bytes: []byte{byte(i + 1)}})
	}
	slices.Reverse(l)
	v := made(t, m, l...)
	for i := range api.MaxPokes {
		wantRead(t, v, plain, i, byte(i+1), 0)
		wantCounts(t, v, i+1, api.MaxPokes-1-i)
	}
}

func TestRewriteIsDueAtItsReadAlone(t *testing.T) {
	m := machine(t)
	v := made(t, m,
		api.Poke{At: 2, Bytes: []byte{8}},
		api.Poke{At: 0, Bytes: []byte{7}},
		api.Poke{At: -1, Off: 1, Bytes: []byte{1}},
		api.Poke{At: math.MinInt, Off: 2, Bytes: []byte{1}},
		api.Poke{At: math.MaxInt, Off: 3, Bytes: []byte{1}},
		api.Poke{At: 4, Mfn: mapped, Bytes: []byte{9}},
	)
	wantCounts(t, v, 0, 4)
	wantRead(t, v, plain, 0, 7, 0, 0, 0)
	want(t, "Write", m.Write(plain, 0, []byte{5}), api.OK)
	wantRead(t, v, plain, 0, 5, 0, 0, 0)
	wantCounts(t, v, 2, 3)
	wantRead(t, v, plain, 0, 8, 0, 0, 0)
	want(t, "Write", m.Write(plain, 0, []byte{6}), api.OK)
	wantRead(t, v, plain, 0, 6, 0, 0, 0)
	wantBytes(t, m, mapped, 0, 0)
	wantRead(t, v, plain, 0, 6, 0, 0, 0)
	wantBytes(t, m, mapped, 0, 9)
	wantCounts(t, v, 5, 1)
}

func TestRewritesOfOneReadAreInOrder(t *testing.T) {
	m := machine(t)
	v := made(t, m,
		api.Poke{At: 1, Bytes: []byte{1, 1, 1, 1}},
		api.Poke{At: 0, Bytes: []byte{9, 9, 9, 9, 9}},
		api.Poke{At: 1, Mfn: size, Bytes: []byte{8}},
		api.Poke{At: 1, Off: 1, Bytes: []byte{2, 2, 2}},
		api.Poke{At: 1, Mfn: held, Off: 255, Bytes: []byte{5}},
		api.Poke{At: 1, Off: 2, Bytes: []byte{3}},
	)
	wantRead(t, v, plain, 0, 9, 9, 9, 9, 9)
	wantRead(t, v, plain, 0, 1, 2, 3, 2, 9)
	wantBytes(t, m, held, 254, 0, 5)
	wantCounts(t, v, 2, 0)
}

func TestWhoseFramesAreRewritten(t *testing.T) {
	m := machine(t)
	var l []api.Poke
	for mfn := range size {
		l = append(l, api.Poke{Mfn: mfn, Off: mfn, Bytes: []byte{byte(mfn + 1), 77}})
	}
	v := made(t, m, l...)
	wantCounts(t, v, 0, size)
	wantRead(t, v, plain, 0, 1, 77)
	wantCounts(t, v, 1, 0)
	for mfn := range size {
		b := make([]byte, api.PageBytes)
		if mfn == plain || mfn == mapped || mfn == held {
			b[mfn], b[mfn+1] = byte(mfn+1), 77
		}
		wantBytes(t, m, mfn, 0, b...)
	}
}

func TestRewriteOutsideIsNotDone(t *testing.T) {
	m := machine(t)
	whole := bytes.Repeat([]byte{3}, api.PageBytes)
	bad := []api.Poke{
		{Off: -1, Bytes: []byte{1}}, {Off: -1, Bytes: []byte{1, 1}}, {Off: 255, Bytes: []byte{1, 1}}, {Off: 256, Bytes: []byte{1}},
		{Off: 257}, {Off: 1, Bytes: whole}, {Bytes: append(slices.Clone(whole), 1)},
		{Off: math.MinInt, Bytes: []byte{1}}, {Off: math.MaxInt, Bytes: []byte{1}},
	}
	for _, mfn := range []int{math.MinInt, -1, size, api.MaxFrames, math.MaxInt} {
		bad = append(bad, api.Poke{Mfn: mfn, Bytes: []byte{1}}, api.Poke{Mfn: mfn})
	}
	was := bytesOf(m)
	v := made(t, m, bad...)
	wantCounts(t, v, 0, len(bad))
	wantRead(t, v, plain, 0, 0)
	wantCounts(t, v, 1, 0)
	if bytesOf(m) != was {
		t.Error("something has changed")
	}
	v = made(t, m, append(bad, api.Poke{Bytes: whole}, api.Poke{Off: 255, Bytes: []byte{4}}, api.Poke{Off: 256}, api.Poke{Off: 9})...)
	wantRead(t, v, plain, 0, append(whole[1:], 4)...)
}

func TestFramesAreLookedAtWhenItIsDue(t *testing.T) {
	m := machine(t)
	v := made(t, m,
		api.Poke{At: 1, Mfn: table1, Bytes: []byte{1}},
		api.Poke{At: 1, Mfn: free, Bytes: []byte{2}},
		api.Poke{At: 1, Mfn: plain, Bytes: []byte{3}},
		api.Poke{At: 1, Mfn: hyper, Bytes: []byte{4}},
		api.Poke{At: 1, Mfn: held, Bytes: []byte{5}},
		api.Poke{At: 1, Mfn: mapped, Bytes: []byte{6}},
	)
	wantRead(t, v, plain, 0, 0)
	want(t, "Put", m.Put(table1, api.KL1), api.OK)
	if n, e := m.Alloc(3); n != free || e != api.OK {
		t.Fatalf("Alloc = %d, %v", n, e)
	}
	want(t, "Get", m.Get(plain, 0, api.KL2), api.OK)
	want(t, "Give", m.Give(hyper, 2), api.OK)
	want(t, "Put", m.Put(held, api.KNone), api.OK)
	want(t, "Free", m.Free(held), api.OK)
	want(t, "Put", m.Put(mapped, api.KWrite), api.OK)
	want(t, "Free", m.Free(mapped), api.OK)
	if n, e := m.Alloc(api.Hyper); n != mapped || e != api.OK {
		t.Fatalf("Alloc = %d, %v", n, e)
	}
	wantRead(t, v, plain, 0, 0)
	for mfn, b := range []byte{plain: 0, table1: 1, hyper: 4, held: 0, mapped: 0, free: 2} {
		wantBytes(t, m, mfn, 0, b, 0)
	}
}

func TestReadAnswersAsTheMachine(t *testing.T) {
	m := machine(t)
	for mfn := range size {
		m.Write(mfn, 0, []byte{byte(mfn), 1, 2})
	}
	v := made(t, m)
	ends := []int{math.MinInt, -1, 0, 1, 3, size, 255, 256, 257, math.MaxInt}
	reads := 0
	for _, mfn := range append(ends, free, hyper, table1) {
		for _, off := range ends {
			for _, n := range ends {
				b, e := v.Read(mfn, off, n)
				mb, me := m.Read(mfn, off, n)
				if !bytes.Equal(b, mb) || e != me || e != api.OK && b != nil {
					t.Errorf("Read(%d, %d, %d) = %x, %v, not %x, %v", mfn, off, n, b, e, mb, me)
				}
				reads++
			}
		}
	}
	wantCounts(t, v, reads, 0)
}

func TestReadThatErrsCounts(t *testing.T) {
	m := machine(t)
	v := made(t, m, api.Poke{At: 0, Bytes: []byte{7}}, api.Poke{At: 1, Off: 1, Bytes: []byte{8}}, api.Poke{At: 2, Off: 2, Bytes: []byte{9}})
	if b, e := v.Read(size, 0, 1); b != nil || e != api.ErrArg {
		t.Errorf("Read of no frame = %x, %v", b, e)
	}
	wantCounts(t, v, 1, 2)
	wantBytes(t, m, plain, 0, 7, 0, 0)
	if b, e := v.Read(plain, 0, -1); b != nil || e != api.ErrArg {
		t.Errorf("Read of -1 bytes = %x, %v", b, e)
	}
	wantCounts(t, v, 2, 1)
	wantBytes(t, m, plain, 0, 7, 8, 0)
	wantRead(t, v, plain, 0, 7, 8, 9)
}

func TestReadOfNothingCounts(t *testing.T) {
	v := made(t, machine(t), api.Poke{At: 0, Bytes: []byte{7}})
	wantRead(t, v, plain, 256)
	wantCounts(t, v, 1, 0)
	wantRead(t, v, plain, 0, 7)
}

func TestWord(t *testing.T) {
	m := machine(t)
	m.Write(held, 253, []byte{1, 2, 255})
	v := made(t, m)
	reads := 0
	for _, c := range []struct {
		mfn, off int
		n        uint16
		e        api.Errno
	}{
		{held, 253, 513, api.OK}, {held, 254, 65282, api.OK}, {held, 252, 256, api.OK}, {held, 0, 0, api.OK}, {free, 0, 0, api.OK},
		{held, 255, 0, api.ErrArg}, {held, 256, 0, api.ErrArg}, {held, -1, 0, api.ErrArg}, {held, math.MaxInt, 0, api.ErrArg}, {held, math.MinInt, 0, api.ErrArg},
		{-1, 0, 0, api.ErrArg}, {size, 0, 0, api.ErrArg}, {math.MaxInt, 0, 0, api.ErrArg}, {math.MinInt, 0, 0, api.ErrArg},
	} {
		if n, e := v.Word(c.mfn, c.off); n != c.n || e != c.e {
			t.Errorf("Word(%d, %d) = %d, %v, not %d, %v", c.mfn, c.off, n, e, c.n, c.e)
		}
		reads++
		wantCounts(t, v, reads, 0)
	}
}

func TestWordIsOfOneMoment(t *testing.T) {
	v := made(t, machine(t),
		api.Poke{At: 0, Bytes: []byte{1, 1}},
		api.Poke{At: 1, Bytes: []byte{2, 2}},
		api.Poke{At: 2, Bytes: []byte{3, 3}},
		api.Poke{At: 3, Bytes: []byte{4, 4}},
	)
	for i, w := range []uint16{0x101, 0x202} {
		if n, e := v.Word(plain, 0); n != w || e != api.OK {
			t.Errorf("word %d = %x, %v", i, n, e)
		}
	}
	if _, e := v.Word(plain, 255); e != api.ErrArg {
		t.Errorf("Word past the end: %v", e)
	}
	wantCounts(t, v, 3, 1)
	if n, e := v.Word(plain, 0); n != 0x404 || e != api.OK {
		t.Errorf("word 3 = %x, %v", n, e)
	}
}

// P2.2

func TestWriteIsNoRead(t *testing.T) {
	m := machine(t)
	v := made(t, m, api.Poke{At: 0, Bytes: []byte{7}})
	for mfn := range free {
		want(t, "Write", v.Write(mfn, 0, []byte{1, 2}), api.OK)
		want(t, "Write of nothing", v.Write(mfn, 256, nil), api.OK)
		wantBytes(t, m, mfn, 0, 1, 2, 0)
	}
	wantCounts(t, v, 0, 1)
	wantRead(t, v, plain, 0, 7, 2, 0)
	want(t, "Write", v.Write(plain, 0, []byte{3}), api.OK)
	wantCounts(t, v, 1, 0)
	wantRead(t, v, plain, 0, 3, 2, 0)
}

func TestWriteErrors(t *testing.T) {
	m := machine(t)
	was := bytesOf(m)
	v := made(t, m, api.Poke{Bytes: []byte{7}})
	for _, mfn := range []int{math.MinInt, -1, size, math.MaxInt} {
		want(t, "Write to no frame", v.Write(mfn, 0, []byte{1}), api.ErrArg)
	}
	for _, off := range []int{math.MinInt, -1, 255, 256, math.MaxInt} {
		want(t, "Write outside", v.Write(plain, off, []byte{1, 1}), api.ErrArg)
		want(t, "Write outside of a free one", v.Write(free, off, []byte{1, 1}), api.ErrArg)
	}
	want(t, "Write of too much", v.Write(plain, 0, make([]byte, 257)), api.ErrArg)
	want(t, "Write to a free one", v.Write(free, 0, []byte{1}), api.ErrFree)
	want(t, "Write of nothing to a free one", v.Write(free, 0, nil), api.ErrFree)
	wantCounts(t, v, 0, 1)
	if bytesOf(m) != was {
		t.Error("something has changed")
	}
}

func TestViewsCountForThemselves(t *testing.T) {
	m := machine(t)
	a := made(t, m, api.Poke{At: 1, Bytes: []byte{1}})
	b := made(t, m, api.Poke{At: 0, Bytes: []byte{2}})
	wantRead(t, a, plain, 0, 0)
	wantCounts(t, b, 0, 1)
	wantRead(t, b, plain, 0, 2)
	wantRead(t, a, plain, 0, 1)
	wantRead(t, b, plain, 0, 1)
	wantRead(t, b, plain, 0, 1)
	wantCounts(t, a, 2, 0)
	wantCounts(t, b, 3, 0)
}

// P2.3

func TestNoView(t *testing.T) {
	for _, v := range []*view.View{nil, {}, new(view.View)} {
		for _, n := range []int{math.MinInt, -1, 0, 1, api.PageBytes, math.MaxInt} {
			if b, e := v.Read(n, n, n); b != nil || e != api.ErrZero {
				t.Errorf("Read(%d) = %x, %v", n, b, e)
			}
			if w, e := v.Word(n, n); w != 0 || e != api.ErrZero {
				t.Errorf("Word(%d) = %d, %v", n, w, e)
			}
			want(t, "Write", v.Write(n, n, nil), api.ErrZero)
			want(t, "Write of a byte", v.Write(n, n, []byte{1}), api.ErrZero)
		}
		wantCounts(t, v, 0, 0)
		if v.Machine() != nil {
			t.Error("Machine of no view")
		}
	}
}

// P4

func TestListsAreNeitherChangedNorKept(t *testing.T) {
	m := machine(t)
	b := []byte{1, 2}
	l := []api.Poke{{At: 0, Bytes: b}, {At: 1, Off: 1, Bytes: b}}
	v := made(t, m, l...)
	b[0] = 9
	l[1] = api.Poke{At: 1, Bytes: []byte{5, 5, 5}}
	wantRead(t, v, plain, 0, 1, 2, 0)
	wantRead(t, v, plain, 0, 1, 1, 2)
	if !slices.Equal(b, []byte{9, 2}) || l[0].At != 0 || l[1].Off != 0 || len(l[1].Bytes) != 3 {
		t.Errorf("what was handed in has been changed: %v, %v", b, l)
	}
	got, _ := v.Read(plain, 0, 2)
	got[0] = 77
	_ = append(got, 77)
	wantRead(t, v, plain, 0, 1, 1, 2)
	v.Write(plain, 0, b)
	b[1] = 8
	wantBytes(t, m, plain, 0, 9, 2, 2)
}

// The chapter's example.
func TestExample(t *testing.T) {
	m, _ := phys.New(1)
	m.Alloc(0)
	v := made(t, m, api.Poke{At: 1, Mfn: 0, Off: 0, Bytes: []byte{7}})
	wantRead(t, v, 0, 0, 0)
	wantRead(t, v, 0, 0, 7)
	wantCounts(t, v, 2, 0)
}
