package net_test

import (
	"bytes"
	"math"
	"slices"
	"testing"

	"tenement/api"
	"tenement/net"
)

// P15.3: turns

// As many as are asked for, as wait and as there are buffers for, whichever is the least.
func TestDeliverUpToSoMany(t *testing.T) {
	for frames := range 5 {
		for buffers := range 9 {
			for _, most := range []int{0, 1, 2, 3, 4, 5, 8, 9, 256, math.MaxInt} {
				wantSoMany(t, frames, buffers, most)
			}
		}
	}
}

func wantSoMany(t *testing.T, frames, buffers, most int) {
	t.Helper()
	x := makeBed(t)
	for i := range frames {
		x.comes(frameOf(9, i))
	}
	for i := range buffers {
		x.putIn(x.buffer(b1, 300+i))
	}
	n := min(frames, buffers, most)
	x.deliver(most, n)
	// Each of them was taken, its entry was read, and no other slot was.
	_, in := x.d.Rings()
	if x.v.Reads() != 1+2*n || in.Waiting() != buffers-n || int(in.Taken()) != n || int(in.Laid()) != n {
		t.Errorf("%d frames, %d buffers, %d: %d reads, %d wait, %d taken", frames, buffers, most, x.v.Reads(), in.Waiting(), in.Taken())
	}
	for i := range n {
		x.answered(x.in, 300+i, api.SOK, 9)
	}
	x.unanswered(x.in)
	x.counts(port, api.Counts{Directed: frames, Delivered: n, Queued: frames - n})
	if n > 0 {
		x.page(b1, frameOf(9, n-1), filled(b1)[9:])
	} else {
		x.page(b1, filled(b1))
	}
}

// The buffer that was posted first is for the frame that came first, over many of both. A buffer's ID is its number.
func TestDeliverInOrder(t *testing.T) {
	x := makeBed(t)
	d := new(dice)
	var frames [][]byte
	var posted []int
	taken := 0
	for i := range 3000 {
		switch d.below(3) {
		case 0:
			if x.in.Room() > 0 {
				x.putIn(x.buffer(b1+i%3, i))
				posted = append(posted, i)
			}
		case 1:
			if len(frames) < 4 {
				frames = append(frames, frameOf(2+i%100, i))
				x.comes(frames[len(frames)-1])
			}
		default:
			n := min(d.below(4), len(frames), len(posted))
			x.deliver(n, n)
			for k := range n {
				x.answered(x.in, posted[k], api.SOK, len(frames[k]))
			}
			if n > 0 {
				mfn := b1 + posted[n-1]%3
				b, _ := x.m.Read(mfn, 0, len(frames[n-1]))
				if !bytes.Equal(b, frames[n-1]) {
					t.Fatalf("buffer %d has %x, not %x", posted[n-1], b, frames[n-1])
				}
			}
			frames, posted, taken = frames[n:], posted[n:], taken+n
		}
	}
	if taken < 500 || t.Failed() {
		t.Errorf("%d were taken", taken)
	}
}

// More is asked of the ring at each Deliver alone: what the front posts meanwhile must wait.
func TestDeliverLooksOnce(t *testing.T) {
	x := makeBed(t)
	for i := range 4 {
		x.comes(frameOf(9, i))
	}
	x.view(rewrite(1, ins, 0, 5))
	x.putIn(x.buffer(b1, 1))
	x.deliver(8, 1)
	x.deliver(8, 3)
}

// Without a frame that waits, or of no buffers, the ring is looked at too; but no buffer is taken.
func TestDeliverOfNone(t *testing.T) {
	x := makeBed(t)
	x.putIn(x.buffer(b1, 1))
	x.deliver(8, 0)
	_, in := x.d.Rings()
	if x.v.Reads() != 1 || in.Waiting() != 1 || in.Taken() != 0 {
		t.Errorf("%d reads, %d wait", x.v.Reads(), in.Waiting())
	}
	x.comes(frameOf(9, 1))
	x.putIn(x.buffer(b1, 2))
	x.deliver(0, 0)
	if x.v.Reads() != 2 || in.Waiting() != 2 || in.Taken() != 0 {
		t.Errorf("%d reads, %d wait", x.v.Reads(), in.Waiting())
	}
	x.unanswered(x.in)
	x.counts(port, api.Counts{Directed: 1, Queued: 1})
	x.page(b1, filled(b1))
}

func TestDeliverOfLessThanNone(t *testing.T) {
	x := makeBed(t)
	x.putIn(x.buffer(b1, 1))
	for range 2 {
		for _, most := range []int{math.MinInt, math.MinInt32, -2, -1} {
			x.refused(x.d, (*net.Back).Deliver, most, api.ErrArg, 0)
		}
		x.comes(frameOf(9, 1))
	}
	x.deliver(1, 1)
}

// A page in that is no frame of the machine, whether a frame waits or not. Of the page out nothing is asked.
func TestDeliverOfNoPage(t *testing.T) {
	x := makeBed(t)
	for _, mfn := range []int{size, 255} {
		d, e := net.New(x.g, 0, 1, outs, mfn, x.s, port)
		want(t, "New", e, api.OK)
		for _, most := range []int{0, 1, 8} {
			x.refused(d, (*net.Back).Deliver, most, api.ErrArg, 1)
		}
		x.refused(d, (*net.Back).Deliver, -1, api.ErrArg, 0)
		x.d, e = net.New(x.g, 0, 1, mfn, ins, x.s, port)
		want(t, "New", e, api.OK)
		x.deliver(1, 0)
		x.comes(frameOf(9, 1))
	}
	x.counts(port, api.Counts{Directed: 2, Queued: 2})
}

// A front that claims more buffers than there are slots has as many taken as there are, if as many frames wait.
func TestDeliverToAFrontThatClaimsTooMany(t *testing.T) {
	x := makeBed(t)
	x.lay(ins, 0, 255, 255)
	for n := range 5 {
		for i := range n {
			x.comes(frameOf(9, i))
		}
		x.deliver(math.MaxInt, n)
		_, in := x.d.Rings()
		if in.Waiting() != 8-n || in.Taken() != in.Laid() {
			t.Errorf("%d wait, taken %d, laid %d", in.Waiting(), in.Taken(), in.Laid())
		}
	}
	if b, _ := x.m.Read(ins, 144, 64); !bytes.Equal(b, bytes.Repeat([]byte{0, 0, api.SBad, 0, 0, 0, 0, 0}, 8)) {
		t.Errorf("slots of noughts are answered %x", b)
	}
	x.counts(port, api.Counts{Directed: 10, NoBuffer: 10})
}

// Who takes buffers by the ring itself takes them from the backend. A frame for which there is none waits.
func TestDeliverToARingThatOthersUse(t *testing.T) {
	x := makeBed(t)
	x.comes(frameOf(9, 1))
	x.delivered(x.buffer(b1, 1), api.SOK, 9, 1)
	_, in := x.d.Rings()
	x.lay(ins, 0, 9)
	in.Look(x.v)
	for range 8 {
		if _, e := in.Take(x.v); e != api.OK {
			t.Errorf("Take: %v", e)
		}
	}
	x.lay(ins, 0, 12)
	x.comes(frameOf(9, 2))
	x.deliver(8, 0) // Eight are under way.
	x.counts(port, api.Counts{Directed: 2, Delivered: 1, Queued: 1})
	want(t, "Answer", in.Answer(x.v, make([]byte, 8)), api.OK)
	x.deliver(8, 1)
	if in.Taken() != 10 || in.Laid() != 3 || in.Waiting() != 2 {
		t.Errorf("%d taken, %d laid", in.Taken(), in.Laid())
	}
}

// A buffer is answered ahead of the next one's being taken: what is laid over its response meanwhile stays.
func TestEachBufferIsAnsweredAheadOfTheNext(t *testing.T) {
	x := makeBed(t)
	for id := range 3 {
		x.comes(frameOf(9, id))
		x.putIn(x.buffer(b1, id+1))
	}
	x.view(rewrite(3, ins, 144, bytes.Repeat([]byte{0xee}, 24)...), rewrite(5, ins, 160, 0xee))
	x.deliver(8, 3)
	over := bytes.Repeat([]byte{0xee}, 8)
	is := slices.Concat(over, []byte{2, 0, 0, 9, 0, 0, 0, 0}, []byte{3, 0, 0, 9, 0, 0, 0, 0})
	if b, _ := x.m.Read(ins, 144, 24); !bytes.Equal(b, is) {
		t.Errorf("the responses are %x", b)
	}
}

// A frame that is delivered into the ring's own page is laid ahead of the response's number and of the next slot's being read.
func TestDeliverIntoTheRing(t *testing.T) {
	x := makeBed(t)
	frame := frameOf(128, 1)
	copy(frame[32:48], raw(b2, 0xee, 0xee, 0xee, 0x55, 0x66))
	x.comes(frame)
	x.comes(frameOf(20, 2))
	x.putIn(x.buffer(ins, 1))
	x.putIn(x.buffer(b1, 2))
	x.deliver(8, 2)
	frame[2], frame[3] = 2, 0
	if b, _ := x.m.Read(ins, 0, 128); !bytes.Equal(b, frame) {
		t.Errorf("the page in is %x", b)
	}
	if b, _ := x.m.Read(ins, 144, 16); !bytes.Equal(b, []byte{1, 0, 0, 128, 0, 0, 0, 0, 0x55, 0x66, 0, 20, 0, 0, 0, 0}) {
		t.Errorf("the responses are %x", b)
	}
	x.page(b1, filled(b1))
	x.page(b2, frameOf(20, 2), filled(b2)[20:])
}

// And one that is delivered into the grant frame is there when the next entry is read.
func TestDeliverIntoTheGrantFrame(t *testing.T) {
	x := makeBed(t)
	was, _ := x.m.Read(table, 0, 256)
	frame := slices.Clone(was[:48])
	copy(frame, []byte{255, 9})
	copy(frame[8*b1:], packed(t, api.Grant{Kind: 1, Gpfn: b3}))
	x.comes(frame)
	x.comes(frameOf(20, 2))
	x.putIn(x.buffer(table, 1))
	x.putIn(x.buffer(b1, 2))
	x.deliver(8, 2)
	x.page(table, frame, was[48:])
	x.page(b1, filled(b1))
	x.page(b3, frameOf(20, 2), filled(b3)[20:])
}

// P15.3: what is delivered

// Frames of each length that there is: a page begins with it, and nothing else has changed.
func TestDeliver(t *testing.T) {
	for n := 2; n <= api.MaxPacket; n++ {
		x := makeBed(t)
		frame := frameOf(n, n)
		x.comes(frame)
		x.comes(frameOf(7, 9))
		was := x.picture()
		x.delivered(x.buffer(b2, 300), api.SOK, n, 1)
		x.page(b2, frame, filled(b2)[n:])
		// The rings' pages are not in it, so that frames from the fourth on stand two pages earlier.
		copy(was.bytes[256*(b2-2):], frame)
		was.counts[port].Delivered++
		was.counts[port].Queued--
		was.heads[port] = string(frameOf(7, 9))
		x.same(was)
	}
}

// badFill lets a frame wait, and asks that the buffer's bytes are answered SBad: the frame is lost, and nothing else has changed.
func (x *bed) badFill(b []byte, reads int) {
	x.t.Helper()
	x.comes(frameOf(60, reads))
	was := x.picture()
	x.delivered(b, api.SBad, 0, reads)
	was.counts[port].NoBuffer++
	was.counts[port].Queued--
	was.heads[port] = ""
	x.same(was)
}

// What can't be pushed to costs its frame.
func TestDeliverByRefs(t *testing.T) {
	x := makeBed(t)
	for _, ref := range append(noRefs, readOnly, end, tab, partly) {
		x.badFill(x.buffer(ref, 513), 1)
	}
	for _, ref := range unread {
		x.badFill(x.buffer(ref, 513), 0)
	}
	for i, ref := range []int{b1, b2, b3, last} {
		x.comes(frameOf(60, i))
		x.delivered(x.buffer(ref, 513), api.SOK, 60, 1)
		mfn := min(ref, b3)
		x.page(mfn, frameOf(60, i), filled(mfn)[60:])
	}
}

// A buffer that is a part of a page takes what fits in, from its own beginning on.
func TestDeliverIntoAPart(t *testing.T) {
	for n := 2; n <= api.MaxPacket; n++ {
		x := makeBed(t)
		frame := frameOf(n, 1)
		x.comes(frame)
		if n > 8 {
			x.delivered(x.buffer(partly, 1), api.SBad, 0, 1)
			x.page(b1, filled(b1))
			continue
		}
		x.delivered(x.buffer(partly, 1), api.SOK, n, 1)
		x.page(b1, filled(b1)[:16], frame, filled(b1)[16+n:])
	}
}

// A frame behind one that was lost, or behind a buffer that could not be filled, has its own.
func TestDeliverBehindWhatWasLost(t *testing.T) {
	x := makeBed(t)
	for i := range 4 {
		x.comes(frameOf(9+i, i))
	}
	for i, ref := range []int{none, b1, readOnly, b2} {
		x.putIn(x.buffer(ref, i))
	}
	x.deliver(8, 4)
	x.answered(x.in, 0, api.SBad, 0)
	x.answered(x.in, 1, api.SOK, 10)
	x.answered(x.in, 2, api.SBad, 0)
	x.answered(x.in, 3, api.SOK, 12)
	x.page(b1, frameOf(10, 1), filled(b1)[10:])
	x.page(b2, frameOf(12, 3), filled(b2)[12:])
	x.counts(port, api.Counts{Directed: 4, Delivered: 2, NoBuffer: 2})
}

// What counts for nothing may be anything, and the response has noughts there.
func TestDeliverToAnyOtherBytes(t *testing.T) {
	x := makeBed(t)
	b := bytes.Repeat([]byte{0xee}, 16)
	copy(b, []byte{b1, 0x77, 0x88, 0x99, 1, 2})
	x.comes(frameOf(60, 1))
	x.delivered(b, api.SOK, 60, 1)
	x.page(b1, frameOf(60, 1), filled(b1)[60:])
	b[0] = none
	x.badFill(b, 1)
	for i := 1; i < 16; i++ {
		if i == 4 || i == 5 {
			continue
		}
		b = raw(b2, 0, 0, 0, 7)
		b[i] = 255
		x.comes(frameOf(9, i))
		x.delivered(b, api.SOK, 9, 1)
		x.page(b2, frameOf(9, i), filled(b2)[9:])
	}
}

func TestDeliverToEachID(t *testing.T) {
	x := makeBed(t)
	for _, id := range []int{0, 1, 127, 128, 255, 256, 257, 0x1234, 32767, 32768, 65280, 65534, 65535} {
		x.comes(frameOf(60, 1))
		x.delivered(x.buffer(b1, id), api.SOK, 60, 1)
		x.badFill(x.buffer(none, id), 1)
	}
}

// Delivering asks nothing of what is to be sent, and costs no credit.
func TestDeliverLeavesWhatIsToBeSent(t *testing.T) {
	x := makeBed(t)
	want(t, "Rate", x.s.Rate(port, 0, 0), api.OK)
	x.putOut(x.packet(b1, 0, 60, 1))
	was, _ := x.m.Read(outs, 0, 256)
	x.comes(frameOf(128, 1))
	x.delivered(x.buffer(b2, 1), api.SOK, 128, 1)
	x.page(outs, was)
	x.counts(port, api.Counts{Directed: 1, Delivered: 1})
}

// One page may be both rings': each end has its own numbers.
func TestOnePageForBoth(t *testing.T) {
	x := makeBed(t)
	x.backend(0, 1, outs, outs)
	x.putOut(x.packet(b1, 0, 60, 7))
	x.comes(frameOf(9, 1))
	x.send(8, 1)
	x.answered(x.out, 7, api.SOK, 0)
	x.deliver(8, 1)
	x.page(b1, frameOf(9, 1), filled(b1)[9:])
	if b, _ := x.m.Read(outs, 144, 8); !bytes.Equal(b, []byte{7, 0, 0, 9, 0, 0, 0, 0}) {
		t.Errorf("the response is %x", b)
	}
}

// Two backends at one port share what waits there.
func TestTwoBackendsAtAPort(t *testing.T) {
	x := makeBed(t)
	other, e := net.New(x.g, 0, 1, outs, ins, x.s, port)
	want(t, "New", e, api.OK)
	x.comes(frameOf(9, 1))
	x.comes(frameOf(9, 2))
	x.putIn(x.buffer(b1, 1))
	x.deliver(1, 1)
	if n, e := other.Deliver(x.v, 1); n != 1 || e != api.OK {
		t.Errorf("Deliver = %d, %v", n, e)
	}
	x.page(b1, frameOf(9, 2), filled(b1)[9:])
	x.counts(port, api.Counts{Directed: 2, Delivered: 2})
}
