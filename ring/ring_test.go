package ring_test

import (
	"bytes"
	"math"
	"testing"

	"tenement/api"
	"tenement/phys"
	"tenement/ring"
	"tenement/view"
)

// Frames of a test's machine.
const (
	page  = 1 // domain 0's: the ring's
	free  = 2 // nobody's
	size  = 3
	table = 0 // domain 1's, a page table
)

var noFrames = []int{math.MinInt, api.Hyper, -1, size, api.MaxFrames, math.MaxInt}

// machine is one of size frames.
func machine(t *testing.T) *phys.Machine {
	t.Helper()
	m, e := phys.New(size)
	if e != api.OK {
		t.Fatalf("phys.New: %v", e)
	}
	for mfn, owner := range []int{1, 0} {
		if n, e := m.Alloc(owner); n != mfn || e != api.OK {
			t.Fatalf("Alloc = %d, %v", n, e)
		}
	}
	want(t, "Get", m.Get(table, 1, api.KL1), api.OK)
	return m
}

func look(t *testing.T, m *phys.Machine, l ...api.Poke) *view.View {
	t.Helper()
	v, e := view.New(m, l)
	if e != api.OK {
		t.Fatalf("view.New: %v", e)
	}
	return v
}

func want(t *testing.T, what string, got, e api.Errno) {
	t.Helper()
	if got != e {
		t.Errorf("%s: %v, not %v", what, got, e)
	}
}

// bed is a back end on a page, and what looks at that.
type bed struct {
	t *testing.T
	m *phys.Machine
	v *view.View
	b *ring.Back
}

func makeBed(t *testing.T, l ...api.Poke) *bed {
	t.Helper()
	m := machine(t)
	return &bed{t, m, look(t, m, l...), makeBack(t, page)}
}

func makeBack(t *testing.T, mfn int) *ring.Back {
	t.Helper()
	b, e := ring.New(mfn)
	if b == nil || e != api.OK {
		t.Fatalf("New(%d): %v", mfn, e)
	}
	return b
}

// write does what a front, or somebody hostile, does to the page.
func (x *bed) write(off int, b ...byte) {
	x.t.Helper()
	want(x.t, "Write", x.m.Write(page, off, b), api.OK)
}

// index lays the front's index.
func (x *bed) index(n int) { x.t.Helper(); x.write(0, byte(n%256), byte(n/256%256)) }

func (x *bed) look(n int, clamped bool) {
	x.t.Helper()
	reads := x.v.Reads()
	if is, c, e := x.b.Look(x.v); is != n || c != clamped || e != api.OK {
		x.t.Errorf("Look = %d, %v, %v, not %d, %v", is, c, e, n, clamped)
	}
	if x.v.Reads() != reads+1 {
		x.t.Errorf("Look is %d reads", x.v.Reads()-reads)
	}
	if x.b.Waiting() != n {
		x.t.Errorf("Waiting = %d behind a Look of %d", x.b.Waiting(), n)
	}
}

func (x *bed) take(b ...byte) {
	x.t.Helper()
	reads, taken, waits := x.v.Reads(), x.b.Taken(), x.b.Waiting()
	if is, e := x.b.Take(x.v); !bytes.Equal(is, b) || e != api.OK {
		x.t.Errorf("Take = %x, %v, not %x", is, e, b)
	}
	if x.v.Reads() != reads+1 {
		x.t.Errorf("Take is %d reads", x.v.Reads()-reads)
	}
	if x.b.Taken() != taken+1 || x.b.Waiting() != waits-1 {
		x.t.Errorf("Taken %d, Waiting %d behind a Take at %d, %d", x.b.Taken(), x.b.Waiting(), taken, waits)
	}
}

// noTake asks that there is none to take, and that this was found out without a read.
func (x *bed) noTake() {
	x.t.Helper()
	reads, was := x.v.Reads(), numbers(x.b)
	if is, e := x.b.Take(x.v); is != nil || e != api.ErrState {
		x.t.Errorf("Take = %x, %v, not %v", is, e, api.ErrState)
	}
	if x.v.Reads() != reads || numbers(x.b) != was {
		x.t.Error("a Take that was refused has done something")
	}
}

func (x *bed) answer(b ...byte) {
	x.t.Helper()
	reads, laid := x.v.Reads(), x.b.Laid()
	want(x.t, "Answer", x.b.Answer(x.v, b), api.OK)
	if x.v.Reads() != reads || x.b.Laid() != laid+1 {
		x.t.Errorf("Answer: %d reads, Laid %d behind %d", x.v.Reads()-reads, x.b.Laid(), laid)
	}
}

func (x *bed) noAnswer(e api.Errno, b ...byte) {
	x.t.Helper()
	was, kept := numbers(x.b), whole(x.m, page)
	want(x.t, "Answer", x.b.Answer(x.v, b), e)
	if numbers(x.b) != was || whole(x.m, page) != kept {
		x.t.Error("an Answer that was refused has done something")
	}
}

// numbers are all that a back end tells.
func numbers(b *ring.Back) [4]int {
	return [4]int{int(b.Taken()), int(b.Laid()), b.Waiting(), b.Mfn()}
}

func whole(m *phys.Machine, mfn int) string {
	b, _ := m.Read(mfn, 0, 256)
	return string(b)
}

// all are the bytes of all frames.
func all(m *phys.Machine) string {
	s := ""
	for mfn := range m.Size() {
		s += whole(m, mfn)
	}
	return s
}

// request is 16 bytes that no other number's have.
func request(n int) []byte {
	b := []byte("q0123456789ab...")
	b[13], b[14], b[15] = byte(n), byte(n>>8), byte(n>>16)
	return b
}

// response is 8 bytes that no other number's have.
func response(n int) []byte {
	b := []byte("r0123...")
	b[5], b[6], b[7] = byte(n), byte(n>>8), byte(n>>16)
	return b
}

// turns brings a new end that behaves well as far as n whole turns do.
func turns(t *testing.T, f *ring.Front, v *view.View, b *ring.Back, n int) {
	t.Helper()
	for i := range n {
		e1 := f.Put(request(i))
		_, _, e2 := b.Look(v)
		_, e3 := b.Take(v)
		e4 := b.Answer(v, response(i))
		_, e5 := f.Get()
		if e1 != 0 || e2 != 0 || e3 != 0 || e4 != 0 || e5 != 0 {
			t.Fatalf("turn %d: Put %v, Look %v, Take %v, Answer %v, Get %v", i, e1, e2, e3, e4, e5)
		}
	}
}

// P8.1

func TestAhead(t *testing.T) {
	for _, taken := range []int{0, 1, 7, 8, 9, 255, 256, 32767, 32768, 65527, 65528, 65534, 65535} {
		for lead := range 65536 {
			index := (taken + lead) % 65536
			n, clamped := ring.Ahead(uint16(index), uint16(taken))
			if n != min(lead, 8) || clamped != (lead > 8) {
				t.Fatalf("Ahead(%d, %d) = %d, %v, where %d lie ahead", index, taken, n, clamped, lead)
			}
		}
	}
}

func TestNew(t *testing.T) {
	for _, no := range []int{math.MinInt, api.Hyper, -1, 256, 257, math.MaxInt} {
		if b, e := ring.New(no); b != nil || e != api.ErrArg {
			t.Errorf("New(%d) = %v, %v", no, b != nil, e)
		}
	}
	for mfn := range 256 {
		b := makeBack(t, mfn)
		if numbers(b) != [4]int{0, 0, 0, mfn} {
			t.Errorf("New(%d): Taken, Laid, Waiting, Mfn are %v", mfn, numbers(b))
		}
	}
}

func TestNewHasSeenNothing(t *testing.T) {
	x := makeBed(t)
	x.index(3)
	x.noTake()
	x.noAnswer(api.ErrState, response(0)...)
}

func TestBacksAreTheirOwn(t *testing.T) {
	x := makeBed(t)
	other := makeBack(t, page)
	x.index(1)
	x.look(1, false)
	x.take(make([]byte, 16)...)
	if numbers(other) != [4]int{0, 0, 0, page} {
		t.Errorf("another back end of the same page: %v", numbers(other))
	}
}

// P8.2

func TestLook(t *testing.T) {
	x := makeBed(t)
	for n := range 9 {
		x.index(n)
		x.look(n, false)
	}
	for _, n := range []int{9, 10, 16, 255, 256, 257, 2048, 32768, 65534, 65535} {
		x.index(n)
		x.look(8, true)
	}
	if numbers(x.b) != [4]int{0, 0, 8, page} {
		t.Errorf("Look has taken or laid: %v", numbers(x.b))
	}
}

// An index that goes back is one that has gone round nearly all of 2^16; what was seen ahead of it counts no more.
func TestLookAnew(t *testing.T) {
	x := makeBed(t)
	x.index(5)
	x.look(5, false)
	x.take(make([]byte, 16)...)
	x.take(make([]byte, 16)...)
	x.look(3, false)
	x.index(3)
	x.look(1, false)
	x.index(2)
	x.look(0, false)
	x.noTake()
	x.index(1)
	x.look(8, true)
	x.index(4)
	x.look(2, false)
	x.take(make([]byte, 16)...)
	x.take(make([]byte, 16)...)
	x.noTake()
}

// Nothing that is written behind a Look is believed until the next one.
func TestLookIsWhatIsSeen(t *testing.T) {
	x := makeBed(t)
	x.index(1)
	x.look(1, false)
	x.index(4)
	if x.b.Waiting() != 1 {
		t.Errorf("Waiting = %d", x.b.Waiting())
	}
	x.take(make([]byte, 16)...)
	x.noTake()
	x.look(3, false)
}

func TestLookChangesNothing(t *testing.T) {
	x := makeBed(t)
	x.write(0, bytes.Repeat([]byte{0xff}, 256)...)
	was := all(x.m)
	x.look(8, true)
	if all(x.m) != was {
		t.Error("Look has written")
	}
}

// Both bytes of the index are of one moment, that of the one read.
func TestLookReadsOnce(t *testing.T) {
	x := makeBed(t,
		api.Poke{At: 0, Mfn: page, Off: 0, Bytes: []byte{4, 0}},
		api.Poke{At: 1, Mfn: page, Off: 0, Bytes: []byte{6, 1}},
		api.Poke{At: 2, Mfn: page, Off: 0, Bytes: []byte{2, 0}},
	)
	x.look(4, false)
	x.look(8, true)
	x.look(2, false)
}

// Beside phys's error there is nothing, and nothing has changed but that there was a read.
func TestLookOfNoFrame(t *testing.T) {
	m := machine(t)
	for _, mfn := range []int{size, size + 1, api.MaxFrames - 1} {
		b, v := makeBack(t, mfn), look(t, m, api.Poke{At: 0, Mfn: page, Bytes: []byte{7}})
		if n, clamped, e := b.Look(v); n != 0 || clamped || e != api.ErrArg {
			t.Errorf("Look at frame %d = %d, %v, %v", mfn, n, clamped, e)
		}
		if v.Reads() != 1 || v.Rest() != 0 || numbers(b) != [4]int{0, 0, 0, mfn} {
			t.Errorf("Look at frame %d: %d reads, %v", mfn, v.Reads(), numbers(b))
		}
	}
}

func TestLookThatErrsSeesWhatItSaw(t *testing.T) {
	x := makeBed(t)
	x.index(3)
	x.look(3, false)
	x.take(make([]byte, 16)...)
	x.index(9)
	if n, clamped, e := x.b.Look(small(t)); n != 0 || clamped || e != api.ErrArg {
		t.Errorf("Look = %d, %v, %v", n, clamped, e)
	}
	if numbers(x.b) != [4]int{1, 0, 2, page} {
		t.Errorf("behind a Look that erred: %v", numbers(x.b))
	}
}

// small is a view of a machine that has no such frame as the ring's page.
func small(t *testing.T) *view.View {
	t.Helper()
	m, e := phys.New(page)
	if e != api.OK {
		t.Fatalf("phys.New: %v", e)
	}
	return look(t, m)
}

func TestTakeFromEachSlot(t *testing.T) {
	x := makeBed(t)
	for n := range 8 {
		x.write(16+16*n, request(n)...)
	}
	x.write(2, 0xff, 0xff)
	for n := range 40 {
		x.index(n + 1)
		x.look(1, false)
		x.take(request(n % 8)...)
		x.noTake()
		x.answer(response(n)...)
	}
	x.index(48)
	x.look(8, false)
	for n := range 8 {
		x.take(request(n)...)
	}
	x.noTake()
}

// The slot's bytes are those at its one read.
func TestTakeReadsOnce(t *testing.T) {
	x := makeBed(t,
		api.Poke{At: 0, Mfn: page, Off: 0, Bytes: []byte{2}},
		api.Poke{At: 1, Mfn: page, Off: 16, Bytes: request(1)},
		api.Poke{At: 2, Mfn: page, Off: 16, Bytes: bytes.Repeat([]byte{0xee}, 32)},
		api.Poke{At: 2, Mfn: page, Off: 32, Bytes: request(2)},
		api.Poke{At: 3, Mfn: page, Off: 0, Bytes: bytes.Repeat([]byte{0xee}, 256)},
	)
	x.look(2, false)
	x.take(request(1)...)
	x.take(request(2)...)
	x.noTake()
}

// No more are under way than there are slots for responses, whatever the front claims.
func TestTakeNoMoreThanSlots(t *testing.T) {
	x := makeBed(t)
	x.index(65535)
	x.look(8, true)
	for range 8 {
		x.take(make([]byte, 16)...)
	}
	x.noTake()
	x.look(8, true)
	x.noTake()
}

func TestTakeAheadOfLaid(t *testing.T) {
	x := makeBed(t)
	nought := make([]byte, 16)
	x.index(5)
	x.look(5, false)
	for range 5 {
		x.take(nought...)
	}
	x.index(10)
	x.look(5, false)
	for range 3 {
		x.take(nought...)
	}
	x.noTake() // two wait, but eight are under way
	x.index(200)
	x.look(8, true)
	x.noTake()
	x.answer(response(0)...)
	x.take(nought...)
	x.noTake()
	for range 3 {
		x.answer(response(0)...)
	}
	for range 3 {
		x.take(nought...)
	}
	x.noTake()
	if numbers(x.b) != [4]int{12, 4, 4, page} {
		t.Errorf("Taken, Laid, Waiting: %v", numbers(x.b))
	}
}

func TestTakeThatErrsTakes(t *testing.T) {
	x := makeBed(t)
	x.write(16, request(0)...)
	x.write(32, request(1)...)
	x.index(2)
	x.look(2, false)
	v := small(t)
	if b, e := x.b.Take(v); b != nil || e != api.ErrArg {
		t.Errorf("Take = %x, %v", b, e)
	}
	if v.Reads() != 1 || numbers(x.b) != [4]int{1, 0, 1, page} {
		t.Errorf("Take that erred: %d reads, %v", v.Reads(), numbers(x.b))
	}
	x.take(request(1)...)
	if b, e := x.b.Take(v); b != nil || e != api.ErrState || v.Reads() != 1 {
		t.Errorf("Take of none = %x, %v, %d reads", b, e, v.Reads())
	}
	x.answer(response(0)...)
	x.answer(response(1)...)
	x.noAnswer(api.ErrState, response(2)...)
}

func TestAnswerToEachSlot(t *testing.T) {
	x := makeBed(t)
	x.write(0, bytes.Repeat([]byte{0xff}, 256)...)
	wanted := bytes.Repeat([]byte{0xff}, 256)
	for n := range 600 {
		x.index(n + 1)
		x.look(1, false)
		x.take(bytes.Repeat([]byte{0xff}, 16)...)
		x.answer(response(n)...)
		copy(wanted[144+n%8*8:], response(n))
		copy(wanted, []byte{byte((n + 1) % 256), byte((n + 1) / 256), byte((n + 1) % 256), byte((n + 1) / 256)})
		if whole(x.m, page) != string(wanted) {
			t.Fatalf("behind answer %d the page is %x", n, whole(x.m, page))
		}
	}
	if whole(x.m, table) != string(make([]byte, 256)) {
		t.Error("another frame has changed")
	}
}

func TestAnswersOneBehindTheOther(t *testing.T) {
	x := makeBed(t)
	x.index(8)
	x.look(8, false)
	for range 8 {
		x.take(make([]byte, 16)...)
	}
	for n := range 8 {
		x.answer(response(n)...)
		x.write(2, 0xaa, 0xaa) // no number of the back's is read back
	}
	for n := range 8 {
		if b, _ := x.m.Read(page, 144+8*n, 8); !bytes.Equal(b, response(n)) {
			t.Errorf("response %d is %x", n, b)
		}
	}
	x.noAnswer(api.ErrState, response(8)...)
}

func TestAnswerErrors(t *testing.T) {
	x := makeBed(t)
	for _, n := range []int{0, 1, 7, 9, 16, 256, 257} {
		x.noAnswer(api.ErrArg, make([]byte, n)...) // ErrState too, but ErrArg is named first
	}
	x.noAnswer(api.ErrState, make([]byte, 8)...)
	x.index(1)
	x.look(1, false)
	x.noAnswer(api.ErrState, make([]byte, 8)...) // seen, but not taken
	x.take(make([]byte, 16)...)
	for _, n := range []int{0, 7, 9, 16} {
		x.noAnswer(api.ErrArg, make([]byte, n)...)
	}
	x.answer(response(0)...)
	x.noAnswer(api.ErrState, response(1)...)
	x.noAnswer(api.ErrArg)
}

// An answer is no read: no rewrite comes between its bytes and its number.
func TestAnswerDoesNoRewrites(t *testing.T) {
	x := makeBed(t,
		api.Poke{At: 0, Mfn: page, Off: 0, Bytes: []byte{1}},
		api.Poke{At: 2, Mfn: page, Off: 0, Bytes: bytes.Repeat([]byte{0xee}, 256)},
	)
	x.look(1, false)
	x.take(make([]byte, 16)...)
	x.answer(response(0)...)
	if x.v.Rest() != 1 {
		t.Errorf("Rest = %d", x.v.Rest())
	}
	wanted := make([]byte, 256)
	wanted[0], wanted[2] = 1, 1
	copy(wanted[144:], response(0))
	if whole(x.m, page) != string(wanted) {
		t.Errorf("the page is %x", whole(x.m, page))
	}
}

// What phys refuses is not written, and laid all the same: where there is no such frame, and where it is free.
func TestAnswerThatIsRefused(t *testing.T) {
	for _, v := range []*view.View{small(t), look(t, machineOfFree(t))} {
		x := makeBed(t)
		x.index(3)
		x.look(3, false)
		for range 3 {
			x.take(make([]byte, 16)...)
		}
		was, reads := all(v.Machine()), v.Reads()
		want(t, "Answer", x.b.Answer(v, response(0)), api.OK)
		if x.b.Laid() != 1 || all(v.Machine()) != was || v.Reads() != reads {
			t.Errorf("Answer that phys refuses: Laid %d", x.b.Laid())
		}
		want(t, "Answer", x.b.Answer(v, response(0)[:7]), api.ErrArg)
		x.answer(response(1)...)
		if b, _ := x.m.Read(page, 144, 16); !bytes.Equal(b, append(make([]byte, 8), response(1)...)) {
			t.Errorf("the responses are %x", b)
		}
		if b, _ := x.m.Read(page, 2, 2); !bytes.Equal(b, []byte{2, 0}) {
			t.Errorf("the number is %x", b)
		}
		want(t, "Answer", x.b.Answer(v, response(2)), api.OK)
		want(t, "Answer", x.b.Answer(v, response(3)), api.ErrState)
	}
}

// machineOfFree is a machine whose frames are all free.
func machineOfFree(t *testing.T) *phys.Machine {
	t.Helper()
	m, e := phys.New(size)
	if e != api.OK {
		t.Fatalf("phys.New: %v", e)
	}
	return m
}

// phys asks nothing about owners and types, so neither does a ring.
func TestPageOfAnyKind(t *testing.T) {
	m := machine(t)
	for _, mfn := range []int{table, page, free} {
		b, v := makeBack(t, mfn), look(t, m)
		m.Write(mfn, 0, []byte{1})
		n, clamped, e := b.Look(v)
		if mfn == free {
			if n != 0 || clamped || e != api.OK {
				t.Errorf("Look at a free frame = %d, %v, %v", n, clamped, e)
			}
			continue
		}
		if n != 1 || clamped || e != api.OK {
			t.Errorf("Look at frame %d = %d, %v, %v", mfn, n, clamped, e)
		}
		if r, e := b.Take(v); len(r) != 16 || e != api.OK {
			t.Errorf("Take of frame %d = %x, %v", mfn, r, e)
		}
		want(t, "Answer", b.Answer(v, response(mfn)), api.OK)
		if r, _ := m.Read(mfn, 144, 8); !bytes.Equal(r, response(mfn)) {
			t.Errorf("frame %d has %x", mfn, r)
		}
	}
}

// The numbers go on from 65535 to 0, with requests under way on both sides of it.
func TestNumbersWrap(t *testing.T) {
	x := makeBed(t)
	f, e := ring.Open(x.m, page)
	want(t, "Open", e, api.OK)
	turns(t, f, x.v, x.b, 65533)
	if numbers(x.b) != [4]int{65533, 65533, 0, page} {
		t.Fatalf("behind 65533 turns: %v", numbers(x.b))
	}
	for n := range 8 {
		want(t, "Put", f.Put(request(n)), api.OK)
	}
	want(t, "Put", f.Put(request(8)), api.ErrFull)
	if b, _ := x.m.Read(page, 0, 2); !bytes.Equal(b, []byte{5, 0}) {
		t.Errorf("the index is %x", b)
	}
	x.look(8, false)
	for n := range 8 {
		x.take(request(n)...)
	}
	x.noTake()
	if numbers(x.b) != [4]int{5, 65533, 0, page} {
		t.Errorf("under way: %v", numbers(x.b))
	}
	for n := range 8 {
		x.answer(response(n)...)
	}
	x.noAnswer(api.ErrState, response(8)...)
	if b, _ := x.m.Read(page, 2, 2); !bytes.Equal(b, []byte{5, 0}) {
		t.Errorf("the number is %x", b)
	}
	for n := range 8 {
		if b, e := f.Get(); !bytes.Equal(b, response(n)) || e != api.OK {
			t.Errorf("Get = %x, %v", b, e)
		}
	}
	if _, e := f.Get(); e != api.ErrState {
		t.Errorf("Get of one more: %v", e)
	}
}

// P8.4

func TestNoBack(t *testing.T) {
	x := makeBed(t)
	x.index(1)
	for _, b := range []*ring.Back{nil, {}, new(ring.Back)} {
		for _, v := range []*view.View{x.v, nil, {}, small(t)} {
			reads := v.Reads()
			if n, clamped, e := b.Look(v); n != 0 || clamped || e != api.ErrZero {
				t.Errorf("Look = %d, %v, %v", n, clamped, e)
			}
			if r, e := b.Take(v); r != nil || e != api.ErrZero {
				t.Errorf("Take = %x, %v", r, e)
			}
			want(t, "Answer", b.Answer(v, response(0)), api.ErrZero)
			want(t, "Answer of none", b.Answer(v, nil), api.ErrZero)
			if v.Reads() != reads {
				t.Error("no back end has read")
			}
		}
		if numbers(b) != [4]int{0, 0, 0, -1} {
			t.Errorf("Taken, Laid, Waiting, Mfn are %v", numbers(b))
		}
	}
}

func TestNoView(t *testing.T) {
	x := makeBed(t)
	x.index(3)
	x.look(3, false)
	x.take(make([]byte, 16)...)
	x.index(8)
	was := numbers(x.b)
	for _, v := range []*view.View{nil, {}, new(view.View)} {
		for _, b := range []*ring.Back{x.b, makeBack(t, page), makeBack(t, api.MaxFrames-1)} {
			if n, clamped, e := b.Look(v); n != 0 || clamped || e != api.ErrZero {
				t.Errorf("Look = %d, %v, %v", n, clamped, e)
			}
			if r, e := b.Take(v); r != nil || e != api.ErrZero {
				t.Errorf("Take = %x, %v", r, e)
			}
			for _, n := range []int{0, 7, 8, 9} {
				want(t, "Answer", b.Answer(v, make([]byte, n)), api.ErrZero)
			}
		}
		if numbers(x.b) != was {
			t.Errorf("no view has changed %v to %v", was, numbers(x.b))
		}
	}
}

// P4

func TestBytesAreNeitherChangedNorKept(t *testing.T) {
	x := makeBed(t)
	x.write(16, request(0)...)
	x.index(1)
	x.look(1, false)
	got, _ := x.b.Take(x.v)
	got[0] = 77
	_ = append(got, 77)
	if b, _ := x.m.Read(page, 16, 32); !bytes.Equal(b, append(request(0), make([]byte, 16)...)) {
		t.Errorf("what was answered is the page's: %x", b)
	}
	r := response(5)
	x.answer(r...)
	b := x.b
	x.index(2)
	x.look(1, false)
	x.take(make([]byte, 16)...)
	want(t, "Answer", b.Answer(x.v, r), api.OK)
	r[0] = 77
	if is, _ := x.m.Read(page, 152, 8); !bytes.Equal(is, response(5)) {
		t.Errorf("what was handed in is kept: %x", is)
	}
	r[0] = 'r'
	if !bytes.Equal(r, response(5)) {
		t.Errorf("what was handed in has been changed: %x", r)
	}
}

// The chapter's example.
func TestExample(t *testing.T) {
	x := makeBed(t)
	x.look(0, false)
	x.write(0, 1)
	x.look(1, false)
	x.take(make([]byte, 16)...)
	x.noTake()
	x.answer(1, 2, 3, 4, 5, 6, 7, 8)
	if b, _ := x.m.Read(page, 2, 2); !bytes.Equal(b, []byte{1, 0}) {
		t.Errorf("at 2 stands %x", b)
	}
	x.noAnswer(api.ErrState, 1, 2, 3, 4, 5, 6, 7, 8)
	if n, clamped := ring.Ahead(2, 65535); n != 3 || clamped {
		t.Errorf("Ahead(2, 65535) = %d, %v", n, clamped)
	}
	if n, clamped := ring.Ahead(65535, 0); n != 8 || !clamped {
		t.Errorf("Ahead(65535, 0) = %d, %v", n, clamped)
	}
}
