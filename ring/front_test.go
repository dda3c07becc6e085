package ring_test

import (
	"bytes"
	"testing"

	"tenement/api"
	"tenement/phys"
	"tenement/ring"
)

// P8.3

// desk is a front end on a page, and what looks at that.
type desk struct {
	t *testing.T
	m *phys.Machine
	f *ring.Front
}

func makeDesk(t *testing.T) *desk {
	t.Helper()
	m := machine(t)
	return &desk{t, m, open(t, m, page)}
}

func open(t *testing.T, m *phys.Machine, mfn int) *ring.Front {
	t.Helper()
	f, e := ring.Open(m, mfn)
	if f == nil || e != api.OK {
		t.Fatalf("Open(%d): %v", mfn, e)
	}
	return f
}

func (x *desk) put(b ...byte) {
	x.t.Helper()
	room := x.f.Room()
	want(x.t, "Put", x.f.Put(b), api.OK)
	x.room(room - 1)
}

func (x *desk) noPut(e api.Errno, b ...byte) {
	x.t.Helper()
	room, was := x.f.Room(), all(x.m)
	want(x.t, "Put", x.f.Put(b), e)
	x.room(room)
	if all(x.m) != was {
		x.t.Error("a Put that was refused has written")
	}
}

func (x *desk) get(b ...byte) {
	x.t.Helper()
	room, was := x.f.Room(), all(x.m)
	if is, e := x.f.Get(); !bytes.Equal(is, b) || e != api.OK {
		x.t.Errorf("Get = %x, %v, not %x", is, e, b)
	}
	x.room(room + 1)
	if all(x.m) != was {
		x.t.Error("Get has written")
	}
}

func (x *desk) noGet(e api.Errno) {
	x.t.Helper()
	room, was := x.f.Room(), all(x.m)
	if b, is := x.f.Get(); b != nil || is != e {
		x.t.Errorf("Get = %x, %v, not %v", b, is, e)
	}
	x.room(room)
	if all(x.m) != was {
		x.t.Error("Get has written")
	}
}

func (x *desk) room(n int) {
	x.t.Helper()
	if x.f.Room() != n {
		x.t.Errorf("Room = %d, not %d", x.f.Room(), n)
	}
}

// write does what a back end does to the page.
func (x *desk) write(off int, b ...byte) {
	x.t.Helper()
	want(x.t, "Write", x.m.Write(page, off, b), api.OK)
}

func (x *desk) page(wanted []byte) {
	x.t.Helper()
	if is := whole(x.m, page); is != string(wanted) {
		x.t.Fatalf("the page is %x, not %x", is, wanted)
	}
}

func TestOpen(t *testing.T) {
	x := makeDesk(t)
	x.room(8)
	x.noGet(api.ErrState)
	for _, m := range []*phys.Machine{nil, {}, new(phys.Machine)} {
		for _, mfn := range append(noFrames, 0, page) {
			if f, e := ring.Open(m, mfn); f != nil || e != api.ErrZero {
				t.Errorf("Open of no machine at %d = %v, %v", mfn, f != nil, e)
			}
		}
	}
	for _, no := range noFrames {
		if f, e := ring.Open(x.m, no); f != nil || e != api.ErrArg {
			t.Errorf("Open(%d) = %v, %v", no, f != nil, e)
		}
	}
}

// All sizes of machines: the last frame is one, the next is none.
func TestOpenAtTheEnd(t *testing.T) {
	for n := range api.MaxFrames {
		m, _ := phys.New(n + 1)
		f := open(t, m, n)
		if f.Room() != 8 {
			t.Errorf("Room = %d", f.Room())
		}
		if f, e := ring.Open(m, n+1); f != nil || e != api.ErrArg {
			t.Errorf("Open(%d) of %d frames = %v, %v", n+1, n+1, f != nil, e)
		}
	}
}

// What stands in the page ahead of Open neither goes nor counts.
func TestOpenWritesNothing(t *testing.T) {
	m := machine(t)
	for mfn := range free {
		want(t, "Write", m.Write(mfn, 0, bytes.Repeat([]byte{0xee}, 256)), api.OK)
	}
	was := all(m)
	x := &desk{t, m, open(t, m, page)}
	if all(m) != was {
		t.Error("Open has written")
	}
	x.room(8)
	x.noGet(api.ErrState)
	x.put(request(1)...)
	wanted := bytes.Repeat([]byte{0xee}, 256)
	copy(wanted, []byte{1, 0})
	copy(wanted[16:], request(1))
	x.page(wanted)
}

func TestPutToEachSlot(t *testing.T) {
	x := makeDesk(t)
	wanted := bytes.Repeat([]byte{0xff}, 256)
	x.write(0, wanted...)
	for n := range 600 {
		x.put(request(n)...)
		copy(wanted[16+n%8*16:], request(n))
		copy(wanted, []byte{byte((n + 1) % 256), byte((n + 1) / 256)})
		x.page(wanted)
		if n%3 == 2 {
			for range 3 {
				if _, e := x.f.Get(); e != api.OK {
					t.Fatalf("Get: %v", e)
				}
			}
		}
	}
	if whole(x.m, table)+whole(x.m, free) != string(make([]byte, 512)) {
		t.Error("another frame has changed")
	}
}

func TestPutErrors(t *testing.T) {
	x := makeDesk(t)
	for n := range 8 {
		for _, no := range []int{0, 1, 8, 15, 17, 32, 256, 257} {
			x.noPut(api.ErrArg, make([]byte, no)...)
		}
		x.put(request(n)...)
	}
	x.noPut(api.ErrFull, request(8)...)
	x.noPut(api.ErrArg, request(8)[:15]...) // ErrFull too, but ErrArg is named first
	x.noPut(api.ErrArg)
	x.write(2, 8) // the back has answered, but room comes by Get
	x.noPut(api.ErrFull, request(8)...)
	x.get(make([]byte, 8)...)
	x.put(request(8)...)
	x.noPut(api.ErrFull, request(9)...)
	x.room(0)
}

// The front's number is its own: what stands at 0 is not read back.
func TestPutDoesNotReadItsIndex(t *testing.T) {
	x := makeDesk(t)
	x.put(request(0)...)
	x.write(0, 0x55, 0x55)
	x.put(request(1)...)
	wanted := make([]byte, 256)
	wanted[0] = 2
	copy(wanted[16:], request(0))
	copy(wanted[32:], request(1))
	x.page(wanted)
}

// A frame that is free is one too, but can't be written: nothing is refused for that.
func TestPutToAFreeFrame(t *testing.T) {
	m := machine(t)
	x := &desk{t, m, open(t, m, free)}
	was := all(m)
	for n := range 8 {
		x.put(request(n)...)
	}
	x.noPut(api.ErrFull, request(8)...)
	x.noGet(api.ErrShort)
	if all(m) != was {
		t.Error("a free frame has been written")
	}
}

func TestGetFromEachSlot(t *testing.T) {
	x := makeDesk(t)
	for n := range 600 {
		x.put(request(n)...)
		x.noGet(api.ErrShort)
		x.write(144+n%8*8, response(n)...)
		x.noGet(api.ErrShort)
		x.write(2, byte((n+1)%256), byte((n+1)/256))
		x.get(response(n)...)
		x.noGet(api.ErrState)
	}
}

func TestGetsOneBehindTheOther(t *testing.T) {
	x := makeDesk(t)
	for n := range 8 {
		x.put(request(n)...)
		x.write(144+8*n, response(n)...)
	}
	x.noGet(api.ErrShort)
	x.write(2, 3)
	for n := range 3 {
		x.get(response(n)...)
	}
	x.noGet(api.ErrShort)
	x.room(3)
	x.write(2, 8)
	for n := range 5 {
		x.get(response(3 + n)...)
	}
	x.noGet(api.ErrState)
	x.room(8)
}

// Only the very number of those that were got says that there is none: both bytes of it count, and no order.
func TestGetByTheNumber(t *testing.T) {
	for _, n := range [][]byte{{2, 0}, {0, 0}, {1, 1}, {0, 1}, {255, 255}, {9, 0}, {0, 128}} {
		x := makeDesk(t)
		x.put(request(0)...)
		x.put(request(1)...)
		x.write(144, response(0)...)
		x.write(2, 1)
		x.get(response(0)...)
		x.noGet(api.ErrShort)
		x.write(152, response(1)...)
		x.write(2, n...)
		x.get(response(1)...)
		x.noGet(api.ErrState)
	}
}

// With nothing under way there is nothing to get, whatever the number says.
func TestGetOfNothingPut(t *testing.T) {
	x := makeDesk(t)
	for _, n := range [][]byte{{0, 0}, {1, 0}, {0, 1}, {255, 255}} {
		x.write(2, n...)
		x.noGet(api.ErrState)
	}
}

func TestFrontsAreTheirOwn(t *testing.T) {
	x := makeDesk(t)
	other := open(t, x.m, page)
	x.put(request(0)...)
	if other.Room() != 8 {
		t.Errorf("another front end of the same page: Room %d", other.Room())
	}
}

// A front end keeps its machine, not a picture of it.
func TestFrontSeesItsMachine(t *testing.T) {
	x := makeDesk(t)
	c := x.m.Copy()
	x.put(request(0)...)
	if whole(c, page) != string(make([]byte, 256)) {
		t.Error("a copy of the machine has been written")
	}
	want(t, "Write", c.Write(page, 2, []byte{1}), api.OK)
	x.noGet(api.ErrShort)
}

// A machine that is there no more is answered by its own error.
func TestFrontWithoutItsMachine(t *testing.T) {
	x := makeDesk(t)
	x.put(request(0)...)
	*x.m = phys.Machine{}
	if b, e := x.f.Get(); b != nil || e != api.ErrZero {
		t.Errorf("Get = %x, %v", b, e)
	}
	x.room(7)
}

// P8.4

func TestNoFront(t *testing.T) {
	for _, f := range []*ring.Front{nil, {}, new(ring.Front)} {
		for _, n := range []int{0, 15, 16, 17} {
			want(t, "Put", f.Put(make([]byte, n)), api.ErrZero)
		}
		if b, e := f.Get(); b != nil || e != api.ErrZero {
			t.Errorf("Get = %x, %v", b, e)
		}
		if f.Room() != 0 {
			t.Errorf("Room = %d", f.Room())
		}
	}
}

// P4

func TestFrontsBytesAreNeitherChangedNorKept(t *testing.T) {
	x := makeDesk(t)
	r := request(3)
	want(t, "Put", x.f.Put(r), api.OK)
	r[0] = 77
	if b, _ := x.m.Read(page, 16, 16); !bytes.Equal(b, request(3)) {
		t.Errorf("what was handed in is kept: %x", b)
	}
	r[0] = 'q'
	if !bytes.Equal(r, request(3)) {
		t.Errorf("what was handed in has been changed: %x", r)
	}
	x.write(144, response(3)...)
	x.write(2, 1)
	got, _ := x.f.Get()
	got[0] = 77
	_ = append(got, 77)
	if b, _ := x.m.Read(page, 144, 16); !bytes.Equal(b, append(response(3), make([]byte, 8)...)) {
		t.Errorf("what was answered is the page's: %x", b)
	}
}
