package pte_test

import (
	"bytes"
	"encoding/binary"
	"math"
	"testing"

	"tenement/api"
	"tenement/phys"
	"tenement/pte"
)

// Frames of a test's machine, by what they are.
const (
	root   = 0
	table  = 1
	page   = 2
	other  = 3 // a page of another domain's
	free   = 4
	hyper  = 5
	table2 = 6
	size   = 7 // and the number of the first frame that is none
)

// Places in the first table, by what its entries say. At 0 stands a page that may be written, and at 63 too.
const (
	atPage      = 0
	atOther     = 1 // that may be read alone
	atAbsent    = 2
	atBad       = 3
	atNone      = 4 // a frame that is none
	atNoneRO    = 5
	atFree      = 6
	atHyper     = 7
	atTable     = 8 // this table itself
	atPageAgain = 9
)

const addresses = 1 << 20

var noFrames = []int{math.MinInt, -1, size, api.MaxFrames, math.MaxInt}

var noIndexes = []int{math.MinInt, -1, api.Entries, api.PageBytes, math.MaxInt / 4, math.MaxInt}

// writable and readable are the bits of entries that are present.
func writable(mfn uint32) uint32 { return mfn*256 + 3 }

func readable(mfn uint32) uint32 { return mfn*256 + 1 }

// machine is one with a root that names the first table at 0 and 63, the second one at 1, and at 2 to 5 what can't be walked.
func machine(t *testing.T) *phys.Machine {
	t.Helper()
	m, e := phys.New(size)
	if e != api.OK {
		t.Fatalf("New: %v", e)
	}
	for mfn, owner := range []int{0, 0, 0, 1, 0, api.Hyper, 0} {
		if n, e := m.Alloc(owner); n != mfn || e != api.OK {
			t.Fatalf("Alloc(%d) = %d, %v", owner, n, e)
		}
	}
	want(t, "Free", m.Free(free), api.OK)
	lay(t, m, root, readable(table), writable(table2), readable(table)-1+64, readable(table)+4, readable(size), readable(1<<24-1))
	layAt(t, m, root, 63, readable(table))
	lay(t, m, table, writable(page), readable(other), writable(page)-1, writable(page)+128, writable(size), readable(size), writable(free), writable(hyper), writable(table), writable(page))
	layAt(t, m, table, 63, writable(page))
	lay(t, m, table2, writable(root), writable(other))
	return m
}

// lay writes entries into a table, from its first place on.
func lay(t *testing.T, m *phys.Machine, mfn int, l ...uint32) {
	t.Helper()
	for i, n := range l {
		layAt(t, m, mfn, i, n)
	}
}

func layAt(t *testing.T, m *phys.Machine, mfn int, index int, n uint32) {
	t.Helper()
	want(t, "Write", m.Write(mfn, index*4, binary.LittleEndian.AppendUint32(nil, n)), api.OK)
}

func want(t *testing.T, what string, got, e api.Errno) {
	t.Helper()
	if got != e {
		t.Errorf("%s: %v, not %v", what, got, e)
	}
}

func wantWalk(t *testing.T, m *phys.Machine, va uint32, write bool, mfn int, off int, e api.Errno) {
	t.Helper()
	if n, o, ge := pte.Walk(m, root, va, write); n != mfn || o != off || ge != e {
		t.Errorf("Walk(%x, %v) = %d, %d, %v, not %d, %d, %v", va, write, n, o, ge, mfn, off, e)
	}
}

func wantFetch(t *testing.T, m *phys.Machine, va uint32, b ...byte) {
	t.Helper()
	if got, e := pte.Fetch(m, root, va, len(b)); !bytes.Equal(got, b) || e != api.OK {
		t.Errorf("Fetch(%x, %d) = %x, %v, not %x", va, len(b), got, e, b)
	}
}

func wantNoFetch(t *testing.T, m *phys.Machine, va uint32, n int, e api.Errno) {
	t.Helper()
	if b, ge := pte.Fetch(m, root, va, n); len(b) != 0 || ge != e {
		t.Errorf("Fetch(%x, %d) = %x, %v, not %v", va, n, b, ge, e)
	}
}

// wantNoStore asks that a store is refused, and that no byte is another behind it.
func wantNoStore(t *testing.T, m *phys.Machine, va uint32, n int, e api.Errno) {
	t.Helper()
	all := bytesOf(m)
	if ge := pte.Store(m, root, va, bytes.Repeat([]byte{0xee}, n)); ge != e {
		t.Errorf("Store(%x) of %d bytes: %v, not %v", va, n, ge, e)
	}
	if bytesOf(m) != all {
		t.Errorf("Store(%x) of %d bytes was refused and has changed the machine", va, n)
	}
}

func wantBytes(t *testing.T, m *phys.Machine, mfn int, off int, b ...byte) {
	t.Helper()
	if got, e := m.Read(mfn, off, len(b)); !bytes.Equal(got, b) || e != api.OK {
		t.Errorf("frame %d has at %d %x, %v, not %x", mfn, off, got, e, b)
	}
}

// bytesOf are all bytes of a machine's frames.
func bytesOf(m *phys.Machine) string {
	var all []byte
	for mfn := range m.Size() {
		b, _ := m.Read(mfn, 0, api.PageBytes)
		all = append(all, b...)
	}
	return string(all)
}

// address is reckoned with factors, where the program shifts.
func address(l2, l1, off int) uint32 { return uint32(l2*64*256 + l1*256 + off) }

// P4.1

func TestPack(t *testing.T) {
	for _, c := range []struct {
		x api.Entry
		n uint32
		e api.Errno
	}{
		{api.Entry{}, 0, api.OK},
		{api.Entry{Present: true}, 1, api.OK},
		{api.Entry{Present: true, Write: true}, 3, api.OK},
		{api.Entry{Present: true, Mfn: 1}, 0x101, api.OK},
		{api.Entry{Present: true, Write: true, Mfn: 5}, 0x503, api.OK},
		{api.Entry{Present: true, Mfn: 255}, 0xff01, api.OK},
		{api.Entry{Present: true, Mfn: api.MaxFrames}, 0x10001, api.OK},
		{api.Entry{Present: true, Mfn: 1<<24 - 1}, 0xffffff01, api.OK},
		{api.Entry{Present: true, Write: true, Mfn: 1<<24 - 1}, 0xffffff03, api.OK},
		{api.Entry{Present: true, Mfn: 1 << 24}, 0, api.ErrArg},
		{api.Entry{Present: true, Mfn: 1<<24 + 1}, 0, api.ErrArg},
		{api.Entry{Present: true, Mfn: 1 << 32}, 0, api.ErrArg},
		{api.Entry{Present: true, Mfn: math.MaxInt}, 0, api.ErrArg},
		{api.Entry{Present: true, Mfn: -1}, 0, api.ErrArg},
		{api.Entry{Present: true, Write: true, Mfn: math.MinInt}, 0, api.ErrArg},
		{api.Entry{Write: true}, 0, api.ErrArg},
		{api.Entry{Mfn: 1}, 0, api.ErrArg},
		{api.Entry{Write: true, Mfn: 1}, 0, api.ErrArg},
		{api.Entry{Mfn: -1}, 0, api.ErrArg},
		{api.Entry{Mfn: 1 << 24}, 0, api.ErrArg},
	} {
		if n, e := pte.Pack(c.x); n != c.n || e != c.e {
			t.Errorf("Pack(%v) = %x, %v, not %x, %v", c.x, n, e, c.n, c.e)
		}
	}
}

func TestUnpack(t *testing.T) {
	for _, c := range []struct {
		n uint32
		x api.Entry
	}{
		{0, api.Entry{}},
		{1, api.Entry{Present: true}},
		{3, api.Entry{Present: true, Write: true}},
		{0x101, api.Entry{Present: true, Mfn: 1}},
		{0x503, api.Entry{Present: true, Write: true, Mfn: 5}},
		{0x10001, api.Entry{Present: true, Mfn: 256}},
		{0xffffff01, api.Entry{Present: true, Mfn: 1<<24 - 1}},
		{0xffffff03, api.Entry{Present: true, Write: true, Mfn: 1<<24 - 1}},
	} {
		if x, e := pte.Unpack(c.n); x != c.x || e != api.OK {
			t.Errorf("Unpack(%x) = %v, %v, not %v", c.n, x, e, c.x)
		}
	}
}

// Each of the bits that must be 0 counts where the entry is present, and no bit does where it is not.
func TestUnpackForm(t *testing.T) {
	for low := range uint32(256) {
		for _, high := range []uint32{0, 0x100, 0xffffff00} {
			x, e := pte.Unpack(high + low)
			wantX, wantE := api.Entry{}, api.OK
			switch {
			case low%2 == 0:
			case low > 3:
				wantE = api.ErrForm
			default:
				wantX = api.Entry{Present: true, Write: low == 3, Mfn: int(high / 256)}
			}
			if x != wantX || e != wantE {
				t.Errorf("Unpack(%x) = %v, %v, not %v, %v", high+low, x, e, wantX, wantE)
			}
		}
	}
}

func TestSplit(t *testing.T) {
	for _, c := range []struct {
		va          uint32
		l2, l1, off int
	}{
		{0, 0, 0, 0},
		{255, 0, 0, 255},
		{256, 0, 1, 0},
		{0x1041, 0, 16, 0x41},
		{0x3fff, 0, 63, 255},
		{0x4000, 1, 0, 0},
		{addresses - 1, 63, 63, 255},
	} {
		if l2, l1, off, e := pte.Split(c.va); l2 != c.l2 || l1 != c.l1 || off != c.off || e != api.OK {
			t.Errorf("Split(%x) = %d, %d, %d, %v", c.va, l2, l1, off, e)
		}
	}
	for _, va := range []uint32{addresses, addresses + 1, 2 * addresses, 1 << 31, math.MaxUint32} {
		if l2, l1, off, e := pte.Split(va); l2 != 0 || l1 != 0 || off != 0 || e != api.ErrArg {
			t.Errorf("Split(%x) = %d, %d, %d, %v", va, l2, l1, off, e)
		}
	}
}

func TestJoin(t *testing.T) {
	for _, c := range []struct {
		l2, l1, off int
		va          uint32
		e           api.Errno
	}{
		{0, 0, 0, 0, api.OK},
		{1, 2, 3, 16384 + 512 + 3, api.OK},
		{0, 16, 0x41, 0x1041, api.OK},
		{63, 0, 0, 0xfc000, api.OK},
		{63, 63, 255, addresses - 1, api.OK},
		{64, 0, 0, 0, api.ErrArg},
		{-1, 0, 0, 0, api.ErrArg},
		{0, 64, 0, 0, api.ErrArg},
		{0, -1, 0, 0, api.ErrArg},
		{0, 0, 256, 0, api.ErrArg},
		{0, 0, -1, 0, api.ErrArg},
		{math.MaxInt, 1, 1, 0, api.ErrArg},
		{math.MinInt, 1, 1, 0, api.ErrArg},
		{1, math.MaxInt, 1, 0, api.ErrArg},
		{1, math.MinInt, 1, 0, api.ErrArg},
		{1, 1, math.MaxInt, 0, api.ErrArg},
		{1, 1, math.MinInt, 0, api.ErrArg},
	} {
		if va, e := pte.Join(c.l2, c.l1, c.off); va != c.va || e != c.e {
			t.Errorf("Join(%d, %d, %d) = %x, %v, not %x, %v", c.l2, c.l1, c.off, va, e, c.va, c.e)
		}
	}
}

// P4.2

func wantAt(t *testing.T, m *phys.Machine, mfn int, index int, n uint32, e api.Errno) {
	t.Helper()
	if got, ge := pte.At(m, mfn, index); got != n || ge != e {
		t.Errorf("At(%d, %d) = %x, %v, not %x, %v", mfn, index, got, ge, n, e)
	}
}

func TestAt(t *testing.T) {
	m := machine(t)
	want(t, "Write", m.Write(page, 0, []byte{1, 2, 3, 4, 5, 6, 7, 8}), api.OK)
	want(t, "Write", m.Write(page, 251, []byte{9, 0xfc, 0xfd, 0xfe, 0xff}), api.OK)
	wantAt(t, m, page, 0, 0x04030201, api.OK)
	wantAt(t, m, page, 1, 0x08070605, api.OK)
	wantAt(t, m, page, 2, 0, api.OK)
	wantAt(t, m, page, 62, 0x09000000, api.OK)
	wantAt(t, m, page, 63, 0xfffefdfc, api.OK)
	wantAt(t, m, free, 0, 0, api.OK)
	wantAt(t, m, hyper, 63, 0, api.OK)
	for _, mfn := range noFrames {
		wantAt(t, m, mfn, 0, 0, api.ErrArg)
		wantAt(t, m, mfn, -1, 0, api.ErrArg)
	}
	for _, index := range noIndexes {
		wantAt(t, m, root, index, 0, api.ErrArg)
	}
}

func TestWalk(t *testing.T) {
	m := machine(t)
	for _, c := range []struct {
		l2, l1, off int
		mfn         int
		e           api.Errno // of a walk to write; of one to read it is the same, but for ErrRO
	}{
		{0, atPage, 0, page, api.OK},
		{0, atPage, 255, page, api.OK},
		{0, atOther, 7, other, api.ErrRO},
		{0, atAbsent, 7, 0, api.ErrAbsent},
		{0, atBad, 7, 0, api.ErrForm},
		{0, atNone, 7, 0, api.ErrArg},
		{0, atFree, 7, free, api.OK},
		{0, atHyper, 7, hyper, api.OK},
		{0, atTable, 7, table, api.OK},
		{0, atPageAgain, 9, page, api.OK},
		{0, 10, 0, 0, api.ErrAbsent},
		{0, 63, 1, page, api.OK},
		{1, 0, 200, root, api.OK},
		{1, 1, 200, other, api.OK},
		{1, 2, 200, 0, api.ErrAbsent},
		{2, atPage, 0, 0, api.ErrAbsent},
		{3, atPage, 0, 0, api.ErrForm},
		{4, atPage, 0, 0, api.ErrArg},
		{5, atPage, 0, 0, api.ErrArg},
		{6, atPage, 0, 0, api.ErrAbsent},
		{62, 63, 255, 0, api.ErrAbsent},
		{63, 63, 255, page, api.OK},
		{63, atOther, 0, other, api.ErrRO},
	} {
		va := address(c.l2, c.l1, c.off)
		for _, write := range []bool{false, true} {
			switch {
			case c.e == api.OK || c.e == api.ErrRO && !write:
				wantWalk(t, m, va, write, c.mfn, c.off, api.OK)
			default:
				wantWalk(t, m, va, write, 0, 0, c.e)
			}
		}
	}
}

// A frame that is none is looked at behind what the entry permits, as the chapter has it.
func TestWalkToNoFrame(t *testing.T) {
	m := machine(t)
	wantWalk(t, m, address(0, atNoneRO, 0), false, 0, 0, api.ErrArg)
	wantWalk(t, m, address(0, atNoneRO, 0), true, 0, 0, api.ErrRO)
	wantWalk(t, m, address(0, atNone, 0), true, 0, 0, api.ErrArg)
}

func TestWalkOfNoAddress(t *testing.T) {
	m := machine(t)
	for _, write := range []bool{false, true} {
		for _, va := range []uint32{addresses, addresses + 1, 1 << 31, math.MaxUint32} {
			wantWalk(t, m, va, write, 0, 0, api.ErrArg)
		}
		for _, mfn := range noFrames {
			if n, off, e := pte.Walk(m, mfn, 0, write); n != 0 || off != 0 || e != api.ErrArg {
				t.Errorf("Walk from the root %d = %d, %d, %v", mfn, n, off, e)
			}
		}
	}
}

// A root of noughts, one that is free, and the last frame of the largest machine.
func TestWalkAtTheEnds(t *testing.T) {
	m, _ := phys.New(api.MaxFrames)
	for range api.MaxFrames {
		m.Alloc(0)
	}
	const last = api.MaxFrames - 1
	if _, _, e := pte.Walk(m, last, 0, false); e != api.ErrAbsent {
		t.Errorf("Walk from a root of noughts: %v", e)
	}
	layAt(t, m, last, 0, readable(last))
	if n, off, e := pte.Walk(m, last, 255, false); n != last || off != 255 || e != api.OK {
		t.Errorf("Walk where the root is its own table: %d, %d, %v", n, off, e)
	}
	layAt(t, m, last, 0, readable(api.MaxFrames))
	if _, _, e := pte.Walk(m, last, 255, false); e != api.ErrArg {
		t.Errorf("Walk by the frame behind the last one: %v", e)
	}
	if _, _, e := pte.Walk(machine(t), free, 0, false); e != api.ErrAbsent {
		t.Errorf("Walk from a free root: %v", e)
	}
}

// P4.3

func TestFetch(t *testing.T) {
	m := machine(t)
	want(t, "Write", m.Write(page, 0, []byte{1, 2, 3}), api.OK)
	want(t, "Write", m.Write(page, 253, []byte{7, 8, 9}), api.OK)
	want(t, "Write", m.Write(other, 0, []byte{4, 5, 6}), api.OK)
	want(t, "Write", m.Write(hyper, 0, []byte{0x55}), api.OK)
	wantFetch(t, m, address(0, atPage, 0), 1, 2, 3, 0)
	wantFetch(t, m, address(0, atPage, 2), 3)
	wantFetch(t, m, address(0, atPage, 253), 7, 8, 9)
	wantFetch(t, m, address(0, atPage, 253), 7, 8, 9, 4, 5, 6, 0)
	wantFetch(t, m, address(0, atFree, 255), 0, 0x55)
	wantFetch(t, m, address(0, 63, 254), 8, 9, 1, 1, 0)
	wantFetch(t, m, addresses-1, 9)
	whole, _ := m.Read(page, 0, api.PageBytes)
	wantFetch(t, m, address(0, atPage, 0), whole...)
	wantFetch(t, m, addresses-api.PageBytes, whole...)
	rest, _ := m.Read(other, 0, api.PageBytes-1)
	wantFetch(t, m, address(0, atPage, 255), append([]byte{9}, rest...)...)
}

func TestFetchErrors(t *testing.T) {
	m := machine(t)
	for _, c := range []struct {
		va uint32
		n  int
		e  api.Errno
	}{
		{0, -1, api.ErrArg},
		{0, math.MinInt, api.ErrArg},
		{0, api.PageBytes + 1, api.ErrArg},
		{0, math.MaxInt, api.ErrArg},
		{address(0, atAbsent, 0), api.PageBytes + 1, api.ErrArg},
		{addresses - 1, 2, api.ErrArg},
		{addresses - 255, api.PageBytes, api.ErrArg},
		{addresses - 255, math.MaxInt, api.ErrArg},
		{addresses, 1, api.ErrArg},
		{1<<31 - 1, 1, api.ErrArg},
		{math.MaxUint32, 1, api.ErrArg},
		{math.MaxUint32, 2, api.ErrArg},
		{math.MaxUint32 - 100, api.PageBytes, api.ErrArg},
		{math.MaxUint32, math.MinInt, api.ErrArg},
		{address(0, atOther, 255), 2, api.ErrAbsent},
		{address(0, atAbsent, 255), 1, api.ErrAbsent},
		{address(0, atAbsent, 255), 2, api.ErrAbsent},
		{address(0, atBad, 255), 2, api.ErrForm},
		{address(0, atNone, 255), 2, api.ErrArg},
		{address(0, atNoneRO, 255), 2, api.ErrArg},
		{address(0, atPageAgain, 1), api.PageBytes, api.ErrAbsent},
		{address(1, 63, 0), 1, api.ErrAbsent},
		{address(2, 63, 255), 2, api.ErrAbsent},
		{address(3, 63, 255), 2, api.ErrForm},
		{address(5, 63, 255), 2, api.ErrArg},
	} {
		wantNoFetch(t, m, c.va, c.n, c.e)
	}
	for _, mfn := range noFrames {
		if b, e := pte.Fetch(m, mfn, 0, 1); len(b) != 0 || e != api.ErrArg {
			t.Errorf("Fetch from the root %d: %x, %v", mfn, b, e)
		}
		want(t, "Store from no root", pte.Store(m, mfn, 0, []byte{1}), api.ErrArg)
	}
}

// Of no bytes there is nothing to err, wherever they would lie.
func TestNoBytes(t *testing.T) {
	m := machine(t)
	for _, va := range []uint32{0, address(0, atOther, 0), address(0, atAbsent, 0), address(0, atBad, 0), addresses - 1, addresses, math.MaxUint32} {
		wantNoFetch(t, m, va, 0, api.OK)
		wantNoStore(t, m, va, 0, api.OK)
		want(t, "Store of nil", pte.Store(m, root, va, nil), api.OK)
		want(t, "Store of nothing from no root", pte.Store(m, -1, va, nil), api.OK)
	}
}

func TestStore(t *testing.T) {
	m := machine(t)
	b := []byte{1, 2, 3}
	want(t, "Store in a page", pte.Store(m, root, address(0, atPage, 5), b), api.OK)
	wantBytes(t, m, page, 4, 0, 1, 2, 3, 0)
	if !bytes.Equal(b, []byte{1, 2, 3}) {
		t.Errorf("Store has changed what it was given: %x", b)
	}
	want(t, "Store at the end of a page", pte.Store(m, root, address(0, atPage, 253), b), api.OK)
	wantBytes(t, m, page, 252, 0, 1, 2, 3)
	want(t, "Store across pages", pte.Store(m, root, address(1, 0, 254), []byte{0x3f, 0, 9, 8}), api.OK)
	wantBytes(t, m, root, 254, 0x3f, 0)
	wantBytes(t, m, other, 0, 9, 8, 0)
	want(t, "Store across tables", pte.Store(m, root, address(0, 63, 254), []byte{6, 5, 4}), api.OK)
	wantBytes(t, m, page, 253, 1, 6, 5)
	wantBytes(t, m, root, 0, 4)
}

func TestStoreOfAPage(t *testing.T) {
	m := machine(t)
	whole := make([]byte, api.PageBytes)
	for i := range whole {
		whole[i] = byte(255 - i)
	}
	want(t, "Store", pte.Store(m, root, address(0, atPage, 0), whole), api.OK)
	wantBytes(t, m, page, 0, whole...)
	want(t, "Store up to the last address", pte.Store(m, root, addresses-api.PageBytes, whole[1:]), api.OK)
	wantBytes(t, m, page, 0, append(whole[1:len(whole):len(whole)], 0)...)
	want(t, "Store at the last address", pte.Store(m, root, addresses-1, []byte{7}), api.OK)
	wantBytes(t, m, page, 255, 7)
}

// Two pages that lie behind one another may be one frame.
func TestStoreInAFrameTwice(t *testing.T) {
	m := machine(t)
	layAt(t, m, table, 10, writable(page))
	b := make([]byte, api.PageBytes)
	for i := range b {
		b[i] = byte(i)
	}
	want(t, "Store", pte.Store(m, root, address(0, atPageAgain, 100), b), api.OK)
	wantBytes(t, m, page, 0, append(b[156:256:256], b[:156]...)...)
	wantFetch(t, m, address(0, atPageAgain, 100), b...)
}

func TestStoreErrors(t *testing.T) {
	m := machine(t)
	for _, c := range []struct {
		va uint32
		n  int
		e  api.Errno
	}{
		{0, api.PageBytes + 1, api.ErrArg},
		{0, 2 * api.PageBytes, api.ErrArg},
		{address(0, atOther, 0), api.PageBytes + 1, api.ErrArg},
		{addresses - 1, 2, api.ErrArg},
		{addresses - 255, api.PageBytes, api.ErrArg},
		{addresses, 1, api.ErrArg},
		{math.MaxUint32, 1, api.ErrArg},
		{math.MaxUint32, 2, api.ErrArg},
		{math.MaxUint32 - 100, api.PageBytes, api.ErrArg},
		{address(0, atOther, 0), 1, api.ErrRO},
		{address(0, atPage, 255), 2, api.ErrRO},
		{address(0, atPage, 1), api.PageBytes, api.ErrRO},
		{address(0, atOther, 255), 2, api.ErrRO},
		{address(0, atAbsent, 255), 2, api.ErrAbsent},
		{address(0, atBad, 255), 2, api.ErrForm},
		{address(0, atNone, 255), 2, api.ErrArg},
		{address(0, atNoneRO, 255), 2, api.ErrRO},
		{address(0, atPageAgain, 255), 2, api.ErrAbsent},
		{address(1, 1, 255), 2, api.ErrAbsent},
		{address(2, 63, 255), 2, api.ErrAbsent},
		{address(3, 63, 255), 2, api.ErrForm},
		{address(5, 0, 0), 1, api.ErrArg},
	} {
		wantNoStore(t, m, c.va, c.n, c.e)
	}
}

// Bytes that would lie in a free frame are left out, and the others are laid where they lie.
func TestStoreInAFreeFrame(t *testing.T) {
	m := machine(t)
	all := bytesOf(m)
	want(t, "Store in a free frame", pte.Store(m, root, address(0, atFree, 1), []byte{1, 2}), api.OK)
	if bytesOf(m) != all {
		t.Error("Store in a free frame has changed the machine")
	}
	want(t, "Store from a free frame on", pte.Store(m, root, address(0, atFree, 254), []byte{1, 2, 3, 4}), api.OK)
	wantBytes(t, m, free, 254, 0, 0)
	wantBytes(t, m, hyper, 0, 3, 4, 0)
	layAt(t, m, table, atPageAgain+1, writable(free))
	want(t, "Store up to a free frame", pte.Store(m, root, address(0, atPageAgain, 255), []byte{7, 8}), api.OK)
	wantBytes(t, m, page, 254, 0, 7)
	wantBytes(t, m, free, 0, 0)
	if f, e := m.Frame(free); f != (api.Frame{Owner: api.NoOwner}) || e != api.OK {
		t.Errorf("the free frame has become %v, %v", f, e)
	}
}

// The first bytes wipe out the entry that the last one goes by, which was found ahead of them.
func TestStoreInItsOwnTable(t *testing.T) {
	m := machine(t)
	b := make([]byte, 256-4*atPageAgain+1)
	b[len(b)-1] = 7
	want(t, "Store", pte.Store(m, root, address(0, atTable, 4*atPageAgain), b), api.OK)
	wantBytes(t, m, page, 0, 7)
	wantAt(t, m, table, atPageAgain, 0, api.OK)
	wantAt(t, m, table, 63, 0, api.OK)
	wantNoStore(t, m, address(0, atTable, 4*atPageAgain), len(b), api.ErrAbsent)
}

// P4.4
func TestNoMachine(t *testing.T) {
	for _, m := range []*phys.Machine{nil, {}} {
		for _, a := range []int{math.MinInt, -1, 0, 1, 64, 256, math.MaxInt} {
			for _, va := range []uint32{0, 1, addresses - 1, addresses, math.MaxUint32} {
				if n, e := pte.At(m, a, a); n != 0 || e != api.ErrZero {
					t.Errorf("At(%d, %d) = %x, %v", a, a, n, e)
				}
				if n, off, e := pte.Walk(m, a, va, a > 0); n != 0 || off != 0 || e != api.ErrZero {
					t.Errorf("Walk(%d, %x) = %d, %d, %v", a, va, n, off, e)
				}
				if b, e := pte.Fetch(m, a, va, a); len(b) != 0 || e != api.ErrZero {
					t.Errorf("Fetch(%d, %x) = %x, %v", a, va, b, e)
				}
				for _, n := range []int{0, 1, api.PageBytes, api.PageBytes + 1} {
					want(t, "Store", pte.Store(m, a, va, make([]byte, n)), api.ErrZero)
				}
			}
		}
	}
}

// P4
func TestFetchIsNewMemory(t *testing.T) {
	m := machine(t)
	b, _ := pte.Fetch(m, root, 0, 4)
	b[0] = 7
	wantFetch(t, m, 0, 0, 0, 0, 0)
	b = []byte{1, 2}
	want(t, "Store", pte.Store(m, root, 0, b), api.OK)
	b[0] = 9
	wantFetch(t, m, 0, 1, 2)
}

// The chapter's examples.
func TestExamples(t *testing.T) {
	if n, e := pte.Pack(api.Entry{Present: true, Write: true, Mfn: 5}); n != 0x503 || e != api.OK {
		t.Errorf("Pack = %x, %v", n, e)
	}
	if x, e := pte.Unpack(0x504); x != (api.Entry{}) || e != api.OK {
		t.Errorf("Unpack(504) = %v, %v", x, e)
	}
	if x, e := pte.Unpack(0x505); x != (api.Entry{}) || e != api.ErrForm {
		t.Errorf("Unpack(505) = %v, %v", x, e)
	}
	if l2, l1, off, e := pte.Split(0x1041); l2 != 0 || l1 != 16 || off != 65 || e != api.OK {
		t.Errorf("Split(1041) = %d, %d, %d, %v", l2, l1, off, e)
	}
	wantWalk(t, machine(t), address(7, 0, 0), false, 0, 0, api.ErrAbsent)
}
