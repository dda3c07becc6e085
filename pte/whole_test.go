package pte_test

import (
	"bytes"
	"math"
	"testing"

	"tenement/api"
	"tenement/phys"
	"tenement/pte"
)

// dice makes numbers by a fixed rule.
type dice uint32

func (d *dice) of(l ...int) int {
	return l[d.below(len(l))]
}

func (d *dice) below(n int) int {
	*d = *d*1664525 + 1013904223
	return int(*d>>12) % n
}

// ghost is a machine's bytes, gone over byte by byte and address by address, with no shift and no page.
type ghost struct {
	bytes [][]byte
	free  []bool
}

// entry tells whether an entry is present, may be written, and its frame.
func (g ghost) entry(table, index int) (bool, bool, int, api.Errno) {
	if table < 0 || table >= len(g.bytes) || index < 0 || index > 63 {
		return false, false, 0, api.ErrArg
	}
	b := g.bytes[table][index*4 : index*4+4]
	low := int(b[0])
	if low%2 == 0 {
		return false, false, 0, api.OK
	}
	if low != 1 && low != 3 {
		return true, false, 0, api.ErrForm
	}
	return true, low == 3, int(b[1]) + int(b[2])*256 + int(b[3])*65536, api.OK
}

// step is what an entry leads to.
func (g ghost) step(table, index int) (bool, int, api.Errno) {
	present, write, mfn, e := g.entry(table, index)
	if e == api.OK && !present {
		e = api.ErrAbsent
	}
	return write, mfn, e
}

func (g ghost) walk(root, va int, write bool) (int, int, api.Errno) {
	if va >= addresses {
		return 0, 0, api.ErrArg
	}
	_, table, e := g.step(root, va/16384)
	if e != api.OK {
		return 0, 0, e
	}
	may, mfn, e := g.step(table, va/256%64)
	switch {
	case e != api.OK:
		return 0, 0, e
	case write && !may:
		return 0, 0, api.ErrRO
	case mfn >= len(g.bytes):
		return 0, 0, api.ErrArg
	}
	return mfn, va % 256, api.OK
}

// places are where n bytes lie.
func (g ghost) places(root, va, n int, write bool) ([][2]int, api.Errno) {
	if n < 0 || n > 256 || n > 0 && va+n-1 >= addresses {
		return nil, api.ErrArg
	}
	var l [][2]int
	for i := range n {
		mfn, off, e := g.walk(root, va+i, write)
		if e != api.OK {
			return nil, e
		}
		l = append(l, [2]int{mfn, off})
	}
	return l, api.OK
}

func (g ghost) fetch(root, va, n int) ([]byte, api.Errno) {
	l, e := g.places(root, va, n, false)
	var b []byte
	for _, at := range l {
		b = append(b, g.bytes[at[0]][at[1]])
	}
	return b, e
}

func (g ghost) store(root, va int, b []byte) api.Errno {
	l, e := g.places(root, va, len(b), true)
	for i, at := range l {
		if !g.free[at[0]] {
			g.bytes[at[0]][at[1]] = b[i]
		}
	}
	return e
}

// pair makes a machine, whose frames are tables of entries of all kinds, and its ghost. A quarter of the frames is freed, and so of noughts.
func (d *dice) pair(t *testing.T, n int) (*phys.Machine, ghost) {
	t.Helper()
	m, e := phys.New(n)
	if e != api.OK {
		t.Fatalf("New(%d): %v", n, e)
	}
	g := ghost{}
	for range n {
		mfn, _ := m.Alloc(d.of(0, 1, api.MaxDoms-1, api.Hyper))
		b := make([]byte, 0, api.PageBytes)
		for range api.Entries {
			low := d.of(1, 3, 3, 3, 3, 3, 3, 3, 3, 3, 1, 3, 0, 2, 5, 129, 254)
			far := d.of(0, 0, 0, 0, 0, 0, 0, 0, 0, 0, 0, 0, 0, 0, 0, 0, 0, 0, 1, 255)
			b = append(b, byte(low), byte(d.below(n)), byte(far), byte(far/255*d.of(0, 1, 255)))
		}
		if d.below(10) == 0 {
			b[d.below(api.Entries)*4+1] = byte(n)
		}
		want(t, "Write", m.Write(mfn, 0, b), api.OK)
		g.bytes, g.free = append(g.bytes, b), append(g.free, false)
	}
	for mfn := range n {
		if d.below(4) == 0 {
			want(t, "Free", m.Free(mfn), api.OK)
			g.bytes[mfn], g.free[mfn] = make([]byte, api.PageBytes), true
		}
	}
	return m, g
}

// address is one that lies near a page's end as often as not, and at times none.
func (d *dice) address() int {
	switch d.below(30) {
	case 0:
		return d.of(addresses, addresses+1, 1<<31, math.MaxUint32-255, math.MaxUint32-1, math.MaxUint32)
	case 1:
		return addresses - d.of(1, 2, 3, 255, 256, 257)
	}
	return d.below(64)*16384 + d.of(0, 1, 62, 63, 63, d.below(64))*256 + d.of(0, 1, 254, 255, d.below(256))
}

func (d *dice) bytes() []byte {
	b := make([]byte, d.of(0, 1, 2, 3, 5, 100, 255, 256, 257, d.below(257)))
	for i := range b {
		b[i] = byte(d.of(0, 1, 3, 1, 3, d.below(256)))
	}
	return b
}

// do does one call of each kind to a machine and its ghost, and tells the errors.
func (d *dice) do(t *testing.T, m *phys.Machine, g ghost) []api.Errno {
	t.Helper()
	n := len(g.bytes)
	root, va, write := d.of(d.below(n), d.below(n), d.below(n), d.below(n), -1, n), d.address(), d.of(0, 1) == 1
	mfn, off, e := pte.Walk(m, root, uint32(va), write)
	if gmfn, goff, ge := g.walk(root, va, write); mfn != gmfn || off != goff || e != ge {
		t.Errorf("Walk(%d, %x, %v) = %d, %d, %v, not %d, %d, %v", root, va, write, mfn, off, e, gmfn, goff, ge)
	}
	long := d.of(-1, 0, 1, 2, 3, 255, 256, 257, d.below(257))
	b, fe := pte.Fetch(m, root, uint32(va), long)
	if gb, ge := g.fetch(root, va, long); !bytes.Equal(b, gb) || fe != ge {
		t.Errorf("Fetch(%d, %x, %d) = %x, %v, not %x, %v", root, va, long, b, fe, gb, ge)
	}
	b = d.bytes()
	se := pte.Store(m, root, uint32(va), b)
	want(t, "Store", se, g.store(root, va, b))
	if bytesOf(m) != string(bytes.Join(g.bytes, nil)) {
		t.Errorf("Store(%d, %x) of %d bytes: not the ghost's bytes", root, va, len(b))
	}
	return []api.Errno{e, fe, se}
}

// P4.2 and P4.3 for tables of any bytes, that are stored into.
func TestAgainstAGhost(t *testing.T) {
	d := new(dice)
	met := map[[2]int]int{}
	for round := range 150 {
		m, g := d.pair(t, d.of(1, 2, 5, 20, 100, 255))
		for i := range 60 {
			for call, e := range d.do(t, m, g) {
				met[[2]int{call, int(e)}]++
			}
			if t.Failed() {
				t.Fatalf("round %d, step %d", round, i)
			}
		}
	}
	for call := range 3 {
		for _, e := range []api.Errno{api.OK, api.ErrArg, api.ErrForm, api.ErrAbsent, api.ErrRO} {
			if met[[2]int{call, int(e)}] < 10 && (call != 1 || e != api.ErrRO) {
				t.Errorf("call %d has answered %v too seldom", call, e)
			}
		}
	}
}

// P4.5: Unpack undoes Pack, and Pack undoes Unpack where the entry is present.
func TestPackAndUnpack(t *testing.T) {
	for i := range 1 << 17 {
		mfn := i * 128
		if i%2 == 1 {
			mfn += i % 128
		}
		for _, x := range []api.Entry{{}, {Present: true, Mfn: mfn}, {Present: true, Write: true, Mfn: mfn}} {
			n, e := pte.Pack(x)
			if e != api.OK {
				t.Fatalf("Pack(%v): %v", x, e)
			}
			if y, e := pte.Unpack(n); y != x || e != api.OK {
				t.Fatalf("Unpack(%x) = %v, %v, not %v", n, y, e, x)
			}
		}
	}
}

// P4.5: Join undoes Split at each address, and no two have the same places.
func TestJoinAndSplit(t *testing.T) {
	last := [3]int{0, 0, -1}
	for va := range uint32(addresses) {
		l2, l1, off, e := pte.Split(va)
		if e != api.OK {
			t.Fatalf("Split(%x): %v", va, e)
		}
		if n, e := pte.Join(l2, l1, off); n != va || e != api.OK {
			t.Fatalf("Join(%d, %d, %d) = %x, %v, not %x", l2, l1, off, n, e, va)
		}
		next := [3]int{l2, l1, off}
		if bytesBefore(next) != bytesBefore(last)+1 {
			t.Fatalf("Split(%x) = %v behind %v", va, next, last)
		}
		last = next
	}
}

// bytesBefore is how many addresses lie ahead of those places.
func bytesBefore(l [3]int) int { return l[0]*16384 + l[1]*256 + l[2] }

// P4.5: what is stored is fetched where the entries may be written, be it in one piece or byte by byte.
func TestWhatIsStoredIsFetched(t *testing.T) {
	m, _ := phys.New(70)
	for range 70 {
		m.Alloc(0)
	}
	layAt(t, m, 0, 5, readable(1))
	for i := range api.Entries {
		layAt(t, m, 1, i, writable(uint32(2+(i*29)%64)))
	}
	d := new(dice)
	for range 300 {
		b := d.bytes()
		b = b[:min(len(b), api.PageBytes)]
		va := uint32(5*16384 + d.below(64*256-len(b)+1))
		want(t, "Store", pte.Store(m, 0, va, b), api.OK)
		wantFetch(t, m, va, b...)
		for i, x := range b {
			wantFetch(t, m, va+uint32(i), x)
		}
	}
}

// P1, P2: no call panics or changes anything, when the numbers that it is given can't be.
func TestNumbersAtTheirEnds(t *testing.T) {
	m := machine(t)
	all := bytesOf(m)
	ends := []int{math.MinInt, math.MinInt + 1, math.MinInt32, -257, -1, 257, math.MaxInt32, math.MaxInt - 1, math.MaxInt}
	vas := []uint32{0, 1, 255, 256, addresses - 1, addresses, 1<<31 - 1, 1 << 31, math.MaxUint32 - 255, math.MaxUint32}
	for _, a := range ends {
		for _, b := range append(ends, 0, 1) {
			pte.Pack(api.Entry{Present: b%2 == 0, Write: a%2 == 0, Mfn: b})
			pte.Join(a, b, 1)
			pte.Join(b, 1, a)
			pte.At(m, a, b)
			pte.At(m, b, a)
			for _, va := range vas {
				pte.Split(va)
				pte.Unpack(va)
				pte.Walk(m, a, va, true)
				pte.Fetch(m, a, va, b)
				pte.Fetch(m, b, va, a)
				pte.Store(m, a, va, make([]byte, 300))
				pte.Store(m, a, va, []byte{1})
			}
		}
	}
	if bytesOf(m) != all {
		t.Error("calls that were refused have changed the machine")
	}
}

// P5: reading asks the same again, and changes nothing of the frames.
func TestReadingChangesNothing(t *testing.T) {
	m := machine(t)
	all := bytesOf(m)
	for mfn := range size {
		before, _ := m.Frame(mfn)
		for range 2 {
			pte.At(m, mfn, 0)
			pte.Walk(m, mfn, 0, true)
			pte.Fetch(m, mfn, 0, 256)
		}
		if after, _ := m.Frame(mfn); after != before {
			t.Errorf("frame %d was %v and is %v", mfn, before, after)
		}
	}
	if bytesOf(m) != all {
		t.Error("reading has changed the machine")
	}
}
