package net_test

import (
	"bytes"
	"math"
	"slices"
	"testing"

	"tenement/api"
	"tenement/net"
	"tenement/phys"
	"tenement/view"
)

// P15.2: turns

func TestSendUpToSoMany(t *testing.T) {
	x := makeBed(t)
	x.send(5, 0)
	id := 0
	for _, c := range [][3]int{{5, 0, 0}, {5, 1, 1}, {5, 3, 3}, {5, 4, 4}, {5, 5, 5}, {5, 6, 5}, {8, 8, 8}, {8, math.MaxInt, 8}, {1, 256, 1}, {0, 7, 0}} {
		for range c[0] {
			x.putOut(x.packet(b1, 0, 2, id))
			id++
		}
		x.send(c[1], c[2])
		out, _ := x.d.Rings()
		if n := out.Waiting(); n != c[0]-c[2] {
			t.Errorf("%d wait, not %d", n, c[0]-c[2])
		}
		x.send(8, c[0]-c[2])
		for i := range c[0] {
			x.answered(x.out, id-c[0]+i, api.SOK, 0)
		}
		x.unanswered(x.out)
	}
	x.counts(port, api.Counts{Taken: id, Forwarded: id})
}

// More is asked of the ring at each Send alone: what the front lays meanwhile must wait.
func TestSendLooksOnce(t *testing.T) {
	x := makeBed(t)
	x.view(rewrite(2, outs, 0, 5))
	x.putOut(x.packet(b1, 0, 2, 1))
	x.putOut(x.packet(b1, 0, 2, 2))
	x.send(8, 2)
	if x.v.Reads() != 7 || x.v.Rest() != 0 {
		t.Errorf("%d reads", x.v.Reads())
	}
	x.send(8, 3)
}

// Of no requests the ring is looked at too.
func TestSendOfNone(t *testing.T) {
	x := makeBed(t)
	x.putOut(x.packet(b1, 0, 2, 1))
	x.send(0, 0)
	out, _ := x.d.Rings()
	if x.v.Reads() != 1 || out.Waiting() != 1 {
		t.Errorf("%d reads, %d wait", x.v.Reads(), out.Waiting())
	}
	x.unanswered(x.out)
	x.counts(port, api.Counts{})
}

func TestSendOfLessThanNone(t *testing.T) {
	x := makeBed(t)
	x.putOut(x.packet(b1, 0, 2, 1))
	for _, most := range []int{math.MinInt, math.MinInt32, -2, -1} {
		x.refused(x.d, (*net.Back).Send, most, api.ErrArg, 0)
	}
	x.send(1, 1)
}

// A page out that is no frame of the machine. Of the page in nothing is asked.
func TestSendOfNoPage(t *testing.T) {
	x := makeBed(t)
	for _, mfn := range []int{size, 255} {
		d, e := net.New(x.g, 0, 1, mfn, ins, x.s, port)
		want(t, "New", e, api.OK)
		for _, most := range []int{0, 1, 8} {
			x.refused(d, (*net.Back).Send, most, api.ErrArg, 1)
		}
		x.refused(d, (*net.Back).Send, -1, api.ErrArg, 0)
		x.d, e = net.New(x.g, 0, 1, outs, mfn, x.s, port)
		want(t, "New", e, api.OK)
		x.send(1, 0)
	}
}

// A front that claims more requests than there are slots has as many taken as there are.
func TestSendOfAFrontThatClaimsTooMany(t *testing.T) {
	x := makeBed(t)
	x.lay(outs, 0, 255, 255)
	x.send(math.MaxInt, 8)
	x.send(3, 3)
	x.send(8, 8)
	out, _ := x.d.Rings()
	if out.Taken() != 19 || out.Laid() != 19 || out.Waiting() != 0 {
		t.Errorf("taken %d, laid %d", out.Taken(), out.Laid())
	}
	if b, _ := x.m.Read(outs, 144, 64); !bytes.Equal(b, bytes.Repeat([]byte{0, 0, api.SBad, 0, 0, 0, 0, 0}, 8)) {
		t.Errorf("slots of noughts are answered %x", b)
	}
	x.counts(port, api.Counts{Taken: 19, Malformed: 19})
}

// Who takes requests by the ring itself takes them from the backend, which goes on as far as the ring lets it.
func TestSendOfARingThatOthersUse(t *testing.T) {
	x := makeBed(t)
	x.sent(x.packet(b1, 0, 2, 1), api.SOK, 2)
	out, _ := x.d.Rings()
	x.lay(outs, 0, 9)
	out.Look(x.v)
	for range 8 {
		if _, e := out.Take(x.v); e != api.OK {
			t.Errorf("Take: %v", e)
		}
	}
	x.lay(outs, 0, 12)
	x.send(8, 0) // Eight are under way.
	want(t, "Answer", out.Answer(x.v, make([]byte, 8)), api.OK)
	x.send(8, 3)
	if out.Taken() != 12 || out.Laid() != 5 || out.Waiting() != 0 {
		t.Errorf("%d taken, %d laid", out.Taken(), out.Laid())
	}
}

// A request is answered ahead of the next one's being taken: what is laid over its response meanwhile stays.
func TestEachIsAnsweredAheadOfTheNext(t *testing.T) {
	x := makeBed(t)
	for id := range 3 {
		x.putOut(x.packet(b1, 0, 2, id+1))
	}
	x.view(rewrite(4, outs, 144, bytes.Repeat([]byte{0xee}, 24)...), rewrite(7, outs, 160, 0xee))
	x.send(8, 3)
	over := bytes.Repeat([]byte{0xee}, 8)
	is := slices.Concat(over, []byte{2, 0, 0, 0, 0, 0, 0, 0}, []byte{3, 0, 0, 0, 0, 0, 0, 0})
	if b, _ := x.m.Read(outs, 144, 24); !bytes.Equal(b, is) {
		t.Errorf("the responses are %x", b)
	}
}

// A request is answered behind its own doing, and ahead of the next one's: what is sent are the responses themselves.
func TestSendOfTheResponses(t *testing.T) {
	x := makeBed(t)
	for i := range 3 {
		x.putOut(x.packet(outs, 144, 24, 0x1205+i))
	}
	x.send(8, 3)
	first, second := []byte{5, 0x12, 0, 0, 0, 0, 0, 0}, []byte{6, 0x12, 0, 0, 0, 0, 0, 0}
	// That goes to an address that is not known, and comes from one that is.
	l := [][]byte{make([]byte, 24), slices.Concat(first, make([]byte, 16)), slices.Concat(first, second, make([]byte, 8))}
	x.waiting(2, l[1:]...)
	x.counts(port, api.Counts{Taken: 3, Forwarded: 3})
}

// P15.2: what is sent

// Each length that a frame has, from some places of its page: its bytes wait for the others, and nothing else has changed.
func TestSend(t *testing.T) {
	for n := 2; n <= api.MaxPacket; n++ {
		x := makeBed(t)
		page := filled(b2)
		for i, off := range []int{0, 1, 16, 256 - n} {
			frame := page[off : off+n]
			x.forget()
			was := x.picture()
			x.sent(x.packet(b2, off, n, 300*i), api.SOK, 2)
			now := x.picture()
			if !bytes.Equal(now.bytes, was.bytes) || !slices.Equal(now.frames, was.frames) || now.maps != 0 {
				t.Errorf("a frame of %d bytes at %d has changed something", n, off)
			}
			if at, e := x.s.Known(int(frame[1])); at != port || e != api.OK {
				t.Errorf("address %d is at %d, %v", frame[1], at, e)
			}
			if now.credit[port] != was.credit[port]-n {
				t.Errorf("%d credits, not %d", now.credit[port], was.credit[port]-n)
			}
			x.counts(port, api.Counts{Taken: i + 1, Forwarded: i + 1})
			x.waiting(0, frame)
			x.waiting(2, frame)
		}
	}
}

// What is no frame of the switch is malformed there.
func TestSendOfNoFrame(t *testing.T) {
	x := makeBed(t)
	x.lay(b3, 100, 1, 255, 3, 4)
	was := x.picture()
	for _, c := range [][3]int{{b1, 0, 0}, {b1, 255, 0}, {b1, 0, 1}, {b1, 255, 1}, {b1, 0, 129}, {b1, 100, 130}, {b1, 0, 255}, {b1, 1, 255}, {last, 100, 4}, {last, 100, 2}, {b3, 100, 128}} {
		x.sent(x.packet(c[0], c[1], c[2], 9), api.SBad, 2)
		was.counts[port].Taken++
		was.counts[port].Malformed++
		x.same(was)
	}
	x.sent(x.packet(b3, 101, 3, 9), api.SOK, 2)
}

// bad asks that a frame's bytes are answered SBad, and that nothing has changed but the switch's numbers.
func (x *bed) bad(b []byte, reads int) {
	x.t.Helper()
	was := x.picture()
	x.sent(b, api.SBad, reads)
	was.counts[port].Taken++
	was.counts[port].Malformed++
	x.same(was)
}

// What can't be pulled is malformed too.
func TestSendByRefs(t *testing.T) {
	x := makeBed(t)
	for _, ref := range noRefs {
		for _, c := range [][2]int{{0, 60}, {0, 0}, {16, 8}, {255, 255}} {
			x.bad(x.packet(ref, c[0], c[1], 513), 1)
		}
	}
	for _, ref := range unread {
		x.bad(x.packet(ref, 0, 60, 513), 0)
		x.bad(x.packet(ref, 0, 0, 513), 0)
	}
	for _, ref := range []int{b1, b2, b3, last, readOnly, tab, table} {
		x.sent(x.packet(ref, 8*b1, 8, 513), api.SOK, 2)
	}
	x.waiting(2, filled(b1)[32:40], filled(b2)[32:40], filled(b3)[32:40], filled(b3)[32:40])
}

// A frame may be read by a grant that is for reading, and where it is a page table.
func TestSendOfWhatMayBeRead(t *testing.T) {
	x := makeBed(t)
	x.sent(x.packet(readOnly, 16, 60, 1), api.SOK, 2)
	x.sent(x.packet(tab, 100, 128, 2), api.SOK, 2)
	x.waiting(2, filled(b1)[16:76], filled(tab)[100:228])
}

// A frame ends with its page, or with its part of one, whose own beginning is the first place.
func TestSendOutsideOfAPage(t *testing.T) {
	x := makeBed(t)
	for off := range 256 {
		if n := 256 - off; n < 255 {
			x.bad(x.packet(b1, off, n+1, 1), 1)
		}
		x.bad(x.packet(b1, off, 255, 1), when(off < 2, 2, 1)) // Pulled where it is in the page, but then too long.
		if off > 8 {
			x.bad(x.packet(partly, off, 0, 1), 1)
		}
	}
	for off := range 9 {
		for n := range 10 {
			switch {
			case off+n > 8:
				x.bad(x.packet(partly, off, n, 1), 1)
			case n < 2:
				x.bad(x.packet(partly, off, n, 1), 2)
			default:
				x.forget()
				x.sent(x.packet(partly, off, n, 1), api.SOK, 2)
				x.waiting(2, filled(b1)[16+off:16+off+n])
				x.s.Done(0, true)
			}
		}
	}
	x.sent(x.packet(end, 0, 56, 1), api.SOK, 2)
	x.sent(x.packet(end, 54, 2, 1), api.SOK, 2)
	x.waiting(2, filled(b2)[200:], filled(b2)[254:])
	x.bad(x.packet(end, 0, 57, 1), 1)
	x.bad(x.packet(end, 55, 2, 1), 1)
}

func when(is bool, a, b int) int {
	if is {
		return a
	}
	return b
}

// What counts for nothing may be anything, and the response has noughts there.
func TestSendOfAnyOtherBytes(t *testing.T) {
	x := makeBed(t)
	b := bytes.Repeat([]byte{0xee}, 16)
	copy(b, []byte{b1, 16, 60, 0x77, 1, 2})
	x.sent(b, api.SOK, 2)
	x.waiting(2, filled(b1)[16:76])
	b[0] = none
	x.bad(b, 1)
	for i := 3; i < 16; i++ {
		if i == 4 || i == 5 {
			continue
		}
		b = raw(b2, 0, 9, 0, 7)
		b[i] = 255
		x.sent(b, api.SOK, 2)
		x.waiting(2, filled(b2)[:9])
	}
}

func TestSendOfEachID(t *testing.T) {
	x := makeBed(t)
	for _, id := range []int{0, 1, 127, 128, 255, 256, 257, 0x1234, 32767, 32768, 65280, 65534, 65535} {
		want(t, "Rate", x.s.Rate(port, 60, 0), api.OK)
		x.sent(x.packet(b1, 0, 60, id), api.SOK, 2)
		x.sent(x.packet(b1, 0, 60, id), api.SFull, 2)
		x.bad(x.packet(none, 0, 60, id), 1)
		x.bad(x.packet(b1, 0, 1, id), 2)
	}
}

// A frame may have as many bytes as the port has credit.
func TestSendWithCredit(t *testing.T) {
	for n := 2; n <= api.MaxPacket; n++ {
		x := makeBed(t)
		want(t, "Rate", x.s.Rate(port, n-1, 1), api.OK)
		was := x.picture()
		x.sent(x.packet(b1, 3, n, 1), api.SFull, 2)
		was.counts[port].Taken++
		was.counts[port].NoCredit++
		x.same(was)
		want(t, "Rate", x.s.Rate(port, n, 0), api.OK)
		x.sent(x.packet(b1, 3, n, 2), api.SOK, 2)
		x.sent(x.packet(b1, 3, 2, 3), api.SFull, 2)
		x.counts(port, api.Counts{Taken: 3, Forwarded: 1, NoCredit: 2})
		x.waiting(2, filled(b1)[3:3+n])
	}
}

// With no credit what is malformed is so all the same, and none of it costs any.
func TestBadAheadOfFull(t *testing.T) {
	x := makeBed(t)
	want(t, "Rate", x.s.Rate(port, 1, 0), api.OK)
	for range 3 {
		x.bad(x.packet(none, 0, 60, 1), 1)
		x.bad(x.packet(b1, 0, 1, 1), 2)
		x.bad(x.packet(b1, 0, 129, 1), 2)
	}
	want(t, "Rate", x.s.Rate(port, 60, 0), api.OK)
	for range 3 {
		x.bad(x.packet(none, 0, 60, 1), 1)
		x.bad(x.packet(b1, 0, 0, 1), 2)
	}
	x.sent(x.packet(b1, 0, 60, 1), api.SOK, 2)
}

// A frame that finds a queue full is sent all the same.
func TestSendToAFullQueue(t *testing.T) {
	x := makeBed(t)
	for i := range 6 {
		x.sent(x.packet(b1, 2*i, 9, i), api.SOK, 2)
	}
	x.counts(port, api.Counts{Taken: 6, Forwarded: 6})
	x.counts(2, api.Counts{Directed: 6, Queued: 4, RingFull: 2})
}

// What is sent goes where its address was learnt, by a ring of the port that it came from.
func TestSendIsLearnt(t *testing.T) {
	x := makeBed(t)
	x.lay(b1, 0, 255, 5, 1)
	x.lay(b2, 0, 6, 5, 2)
	x.lay(b3, 0, 5, 7, 3)
	x.sent(x.packet(b1, 0, 3, 1), api.SOK, 2)
	want(t, "Send", x.s.Send(2, []byte{5, 6, 9}), api.OK)
	x.sent(x.packet(b2, 0, 3, 2), api.SOK, 2)
	x.sent(x.packet(b3, 0, 3, 3), api.SOK, 2) // to itself, and so to nobody
	x.waiting(0, []byte{255, 5, 1})
	x.waiting(2, []byte{255, 5, 1}, []byte{6, 5, 2})
	x.waiting(port, []byte{5, 6, 9})
}

// Sending asks nothing of the buffers, nor of what waits.
func TestSendLeavesTheBuffers(t *testing.T) {
	x := makeBed(t)
	x.putIn(x.buffer(b2, 1))
	x.comes(frameOf(9, 1))
	was, _ := x.m.Read(ins, 0, 256)
	x.sent(x.packet(b1, 0, 60, 1), api.SOK, 2)
	x.page(ins, was)
	x.page(b2, filled(b2))
	x.waiting(port, frameOf(9, 1))
}

// Frames that the view's machine has not can't be pulled.
func TestSendThroughAViewOfAnotherMachine(t *testing.T) {
	x := makeBed(t)
	m, _ := phys.New(b1)
	for mfn := range b1 {
		m.Alloc(1)
		b, _ := x.m.Read(mfn, 0, 256)
		m.Write(mfn, 0, b)
	}
	x.v, _ = view.New(m, nil)
	m.Write(outs, 0, []byte{1, 0})
	m.Write(outs, 16, x.packet(b1, 0, 60, 7))
	was := x.picture()
	x.send(8, 1)
	was.counts[port].Taken++
	was.counts[port].Malformed++
	x.same(was)
	if b, _ := m.Read(outs, 144, 8); !bytes.Equal(b, []byte{7, 0, api.SBad, 0, 0, 0, 0, 0}) {
		t.Errorf("the response is %x", b)
	}
}

// A backend may live in any domain, and be any one's, also its own front.
func TestBackendOfAnyDomain(t *testing.T) {
	for _, c := range [][2]int{{1, 1}, {3, 1}, {7, 1}, {0, 7}, {1, 0}, {5, 6}} {
		x := makeBedFor(t, c[0], c[1])
		x.sent(x.packet(b1, 0, 60, 1), api.SOK, 2)
		x.comes(frameOf(9, 1))
		x.delivered(x.buffer(b2, 1), api.SOK, 9, 1)
		for _, ref := range []int{others, junk, alien} {
			x.bad(x.packet(ref, 0, 60, 1), 1)
			x.badFill(x.buffer(ref, 1), 1)
		}
		// What is granted to this domain is not to another one.
		x.backend(4, c[1], outs, ins)
		x.bad(x.packet(b1, 0, 60, 1), 1)
		x.badFill(x.buffer(b1, 1), 1)
		// And a front that grants nothing has nothing of this one's.
		x.backend(c[0], 4, outs, ins)
		x.bad(x.packet(b1, 0, 60, 1), 0)
		x.badFill(x.buffer(b1, 1), 0)
	}
}

// A front that has not joined grants nothing.
func TestFrontThatHasLeft(t *testing.T) {
	x := makeBed(t)
	want(t, "Leave", x.g.Leave(1), api.OK)
	x.bad(x.packet(b1, 0, 60, 1), 0)
	x.bad(x.packet(b1, 0, 0, 1), 0)
	x.badFill(x.buffer(b1, 1), 0)
}
