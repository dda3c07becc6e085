package net_test

import (
	"bytes"
	"testing"

	"tenement/api"
)

// A front's rewrites ahead of each single read. Read 0 is that of the ring's index, read 1 that of the slot, read 2 that of the entry; of a frame that is sent read 3 is that of its bytes.

// rewrite lays bytes ahead of a read.
func rewrite(at, mfn, off int, b ...byte) api.Poke {
	return api.Poke{At: at, Mfn: mfn, Off: off, Bytes: b}
}

// entry lays an entry ahead of a read.
func entry(t *testing.T, at, ref int, g api.Grant) api.Poke {
	t.Helper()
	return rewrite(at, table, 8*ref, packed(t, g)...)
}

// written are a page's bytes, none of them as it was filled, and over lays them there.
func written() []byte { return bytes.Repeat([]byte("ABCDEFGHIJKLMNOP"), 16) }

func over(at, mfn int) api.Poke { return rewrite(at, mfn, 0, written()...) }

// read asks how often the view was read, and how many rewrites are not done.
func (x *bed) read(reads, rest int) {
	x.t.Helper()
	if x.v.Reads() != reads || x.v.Rest() != rest {
		x.t.Errorf("%d reads, not %d; %d rewrites are left, not %d", x.v.Reads(), reads, x.v.Rest(), rest)
	}
}

func TestRewriteOfTheIndex(t *testing.T) {
	x := makeBed(t)
	x.putOut(x.packet(b1, 0, 60, 1))
	x.view(rewrite(0, outs, 0, 0), rewrite(1, outs, 0, 3, 0))
	x.send(8, 0)
	x.send(8, 3)
	x = makeBed(t)
	for i := range 3 {
		x.comes(frameOf(9, i))
	}
	x.putIn(x.buffer(b1, 1))
	x.view(rewrite(0, ins, 0, 0), rewrite(1, ins, 0, 3, 0))
	x.deliver(8, 0)
	x.deliver(8, 3)
}

// A frame's slot is what it is at its one read: also the ID, which the response tells.
func TestRewriteOfAFramesSlot(t *testing.T) {
	for at := range 5 {
		x := makeBed(t)
		x.putOut(x.packet(b1, 3, 60, 0x102))
		x.view(rewrite(at, outs, 16, x.packet(b2, 100, 9, 0x708)...))
		x.send(1, 1)
		x.read(4, max(at-3, 0))
		if at <= 1 {
			x.answered(x.out, 0x708, api.SOK, 0)
			x.waiting(0, filled(b2)[100:109])
		} else {
			x.answered(x.out, 0x102, api.SOK, 0)
			x.waiting(0, filled(b1)[3:63])
		}
	}
}

// So is a buffer's.
func TestRewriteOfABuffersSlot(t *testing.T) {
	for at := range 4 {
		x := makeBed(t)
		x.comes(frameOf(60, 1))
		x.putIn(x.buffer(b1, 0x102))
		x.view(rewrite(at, ins, 16, x.buffer(b2, 0x708)...))
		x.deliver(1, 1)
		x.read(3, max(at-2, 0))
		mfn, other := b1, b2
		if at <= 1 {
			mfn, other = b2, b1
		}
		x.answered(x.in, when(at <= 1, 0x708, 0x102), api.SOK, 60)
		x.page(mfn, frameOf(60, 1), filled(mfn)[60:])
		x.page(other, filled(other))
	}
}

// An entry is what it is at its one read.
func TestRewriteOfAFramesEntry(t *testing.T) {
	for at := range 5 {
		for _, p := range []api.Poke{rewrite(at, table, 8*b1, 0), entry(t, at, b1, api.Grant{Kind: 1, Sub: true, Gpfn: b1, Off: 3, Len: 59})} {
			x := makeBed(t)
			x.putOut(x.packet(b1, 0, 60, 1))
			x.view(p)
			x.send(1, 1)
			if at <= 2 {
				x.read(3, 0)
				x.answered(x.out, 1, api.SBad, 0)
				x.waiting(0)
				x.counts(port, api.Counts{Taken: 1, Malformed: 1})
				continue
			}
			x.read(4, max(at-3, 0))
			x.answered(x.out, 1, api.SOK, 0)
			x.waiting(0, filled(b1)[:60])
		}
	}
}

func TestRewriteToAnotherFrame(t *testing.T) {
	for at := range 5 {
		x := makeBed(t)
		x.putOut(x.packet(b1, 5, 60, 1))
		x.view(entry(t, at, b1, api.Grant{Kind: 1, Sub: true, Gpfn: b2, Off: 100, Len: 100}))
		x.send(1, 1)
		x.answered(x.out, 1, api.SOK, 0)
		if at <= 2 {
			x.waiting(0, filled(b2)[105:165])
		} else {
			x.waiting(0, filled(b1)[5:65])
		}
	}
}

func TestRewriteOfABuffersEntry(t *testing.T) {
	for at := range 4 {
		for _, p := range []api.Poke{rewrite(at, table, 8*b1, 0), entry(t, at, b1, api.Grant{Kind: 1, RO: true, Gpfn: b1})} {
			x := makeBed(t)
			x.comes(frameOf(60, 1))
			x.putIn(x.buffer(b1, 1))
			x.view(p)
			x.deliver(1, 1)
			x.read(3, max(at-2, 0))
			if at <= 2 {
				x.answered(x.in, 1, api.SBad, 0)
				x.page(b1, filled(b1))
				x.counts(port, api.Counts{Directed: 1, NoBuffer: 1})
				continue
			}
			x.answered(x.in, 1, api.SOK, 60)
			x.page(b1, frameOf(60, 1), filled(b1)[60:])
		}
	}
	for at := range 4 {
		x := makeBed(t)
		x.comes(frameOf(60, 1))
		x.putIn(x.buffer(b1, 1))
		x.view(entry(t, at, b1, api.Grant{Kind: 1, Gpfn: b3}))
		x.deliver(1, 1)
		mfn := when(at <= 2, b3, b1)
		x.page(mfn, frameOf(60, 1), filled(mfn)[60:])
	}
}

// P15.5: a frame's bytes are those at the one read, whatever is laid there ahead of it or behind it.
func TestRewriteOfAFramesBytes(t *testing.T) {
	for at := range 6 {
		x := makeBed(t)
		x.putOut(x.packet(b1, 20, 60, 1))
		x.putOut(x.packet(b2, 20, 60, 2))
		x.view(over(at, b1))
		x.send(8, 2)
		x.read(7, 0)
		first := filled(b1)[20:80]
		if at <= 3 {
			first = written()[20:80]
		}
		x.waiting(0, first, filled(b2)[20:80])
		x.page(b1, written())
	}
}

// What it is that is malformed is told by the bytes at that read, too.
func TestRewriteOfAFramesAddress(t *testing.T) {
	for at := range 6 {
		x := makeBed(t)
		x.putOut(x.packet(b1, 20, 60, 1))
		x.view(rewrite(at, b1, 21, 255))
		x.send(8, 1)
		x.read(4, when(at <= 3, 0, 1))
		x.answered(x.out, 1, when(at <= 3, api.SBad, api.SOK), 0)
	}
}

// Whatever is laid into a buffer ahead of the last read, the frame is laid behind that; what comes later is the front's own.
func TestRewriteOfABuffer(t *testing.T) {
	for at := range 6 {
		x := makeBed(t)
		x.comes(frameOf(60, 1))
		x.comes(frameOf(9, 2))
		x.putIn(x.buffer(b1, 1))
		x.putIn(x.buffer(b2, 2))
		x.view(over(at, b1))
		x.deliver(8, 2)
		x.read(5, max(at-4, 0))
		switch {
		case at <= 2:
			x.page(b1, frameOf(60, 1), written()[60:])
		case at <= 4:
			x.page(b1, written())
		default:
			x.page(b1, frameOf(60, 1), filled(b1)[60:])
		}
		x.page(b2, frameOf(9, 2), filled(b2)[9:])
	}
}

// What waits on the switch is nobody's to write: neither the sender nor who it is for can.
func TestWhatWaitsCantBeRewritten(t *testing.T) {
	x := makeBed(t)
	x.sent(x.packet(b1, 0, 60, 1), api.SOK, 2)
	x.lay(b1, 0, written()...)
	x.waiting(2, filled(b1)[:60])
	x.comes(frameOf(60, 1))
	x.delivered(x.buffer(b2, 1), api.SOK, 60, 1)
	x.sent(x.packet(b2, 0, 60, 2), api.SOK, 2)
	x.lay(b2, 0, written()...)
	x.waiting(0, filled(b1)[:60], frameOf(60, 1))
}

// What is refused ahead of a read does not make it.
func TestRewritesThatAreNotDue(t *testing.T) {
	for _, c := range []struct{ ref, n, reads int }{{none, 60, 3}, {others, 60, 3}, {32, 60, 2}, {255, 0, 2}, {partly, 9, 3}, {b1, 0, 4}, {b1, 129, 4}} {
		x := makeBed(t)
		var l []api.Poke
		for mfn := range size {
			l = append(l, over(c.reads, mfn))
		}
		x.putOut(x.packet(c.ref, 0, c.n, 1))
		was := x.picture()
		x.view(l...)
		x.send(8, 1)
		x.read(c.reads, size)
		was.counts[port].Taken++
		was.counts[port].Malformed++
		x.same(was)
	}
	for _, c := range [][2]int{{none, 3}, {readOnly, 3}, {tab, 3}, {32, 2}, {255, 2}, {partly, 3}, {b1, 3}} {
		x := makeBed(t)
		x.comes(frameOf(60, 1))
		x.putIn(x.buffer(c[0], 1))
		x.view(over(c[1], b2))
		x.deliver(8, 1)
		x.read(c[1], 1)
		x.page(b2, filled(b2))
	}
}
