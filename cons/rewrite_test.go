package cons_test

import (
	"slices"
	"testing"

	"tenement/api"
)

func poke(at, off int, b ...byte) api.Poke { return api.Poke{At: at, Mfn: page, Off: off, Bytes: b} }

// P16.2: what a hostile guest can do between the reads of a Drain.

func TestNumberIsReadOnce(t *testing.T) {
	x := makeBed(t)
	x.put(0, []byte("abcdef")...)
	x.view(poke(0, 0, word(2)...), poke(1, 0, word(5)...))
	x.drain(2, false)
	x.reads(2)
	x.told(0, 5)
	x.told(2, 2)
	x.lines("ab")
	x.view()
	x.drain(3, false)
	x.lines("abcde")
}

// Both bytes of the number are of one moment.
func TestNumberIsOfOneMoment(t *testing.T) {
	x := at(t, 250)
	x.tell(0, 256)
	x.view(poke(1, 0, word(255)...))
	x.drain(6, false)
	x.told(2, 256)
	x.told(0, 255)
	x.view()
	x.drain(128, true)
}

func TestBytesAreReadOnce(t *testing.T) {
	x := makeBed(t)
	x.put(0, []byte("abc")...)
	x.view(poke(1, 17, '\n'), poke(2, 16, []byte("xyz")...))
	x.drain(3, false)
	x.reads(2)
	x.lines("a", "c")
	x.bytes(16, 'a', '\n', 'c')
}

// With no bytes ahead there are two reads all the same, and so what is due at the second one is done.
func TestDrainOfNoBytesReads(t *testing.T) {
	for _, start := range []int{0, 1, 127, 128, 200, 65535} {
		x := at(t, start)
		x.tell(0, start)
		x.view(poke(1, 200, 7), poke(2, 201, 8))
		x.drain(0, false)
		x.reads(2)
		x.bytes(200, 7, 0)
	}
}

// What wraps is read by itself, behind the other part; both have what stands there then.
func TestPartsAreTwoReads(t *testing.T) {
	x := at(t, 126)
	old := raw(x.c)
	x.put(126, []byte("abcd")...)
	x.view(
		poke(1, 142, 'A'),
		poke(1, 16, 'C'),
		poke(2, 143, 'X'),
		poke(2, 17, 'D'),
		poke(3, 16, 'Y'),
	)
	x.drain(4, false)
	x.reads(3)
	if is := raw(x.c); is != old+"AbCD" {
		t.Errorf("taken were %q", is[len(old):])
	}
	x.bytes(142, 'A', 'X')
	x.bytes(16, 'C', 'D')
}

// Up to the ring's end there is one part alone.
func TestNothingWraps(t *testing.T) {
	for _, c := range []struct{ start, n, reads int }{
		{0, 128, 2}, {1, 127, 2}, {1, 128, 3}, {127, 1, 2}, {127, 2, 3}, {128, 128, 2}, {120, 8, 2}, {120, 9, 3}, {65535, 1, 2}, {65535, 2, 3},
	} {
		x := at(t, c.start)
		x.tell(0, c.start+c.n)
		x.view(poke(c.reads-1, 200, 1), poke(c.reads, 200, 2))
		x.drain(c.n, false)
		x.reads(c.reads)
		x.bytes(200, 1)
	}
	// A clamped number is as 128.
	x := at(t, 5)
	x.tell(0, 4)
	x.view()
	x.drain(128, true)
	x.reads(3)
}

// What is written is no read, and comes last: whatever is laid over the daemon's number counts for nothing.
func TestNumberIsWrittenLast(t *testing.T) {
	x := at(t, 127)
	x.put(127, 'a', 'b')
	x.view(poke(0, 2, 9, 9), poke(1, 2, 8, 8), poke(2, 2, 7, 7), poke(3, 2, 6, 6))
	x.drain(2, false)
	x.reads(3)
	x.told(2, 129)
	x.view(poke(0, 4, word(3)...), poke(0, 6, 9, 9), poke(1, 6, 6, 6))
	x.feed(0, 'c')
	x.reads(1)
	x.told(6, 0)
	x.view(poke(0, 4, word(0)...), poke(0, 6, 9, 9), poke(0, 160, 1, 1, 1))
	x.feed(2, 'c', 'd')
	x.told(6, 2)
	x.bytes(160, 'c', 'd', 1)
}

// The room is of the moment of the one read.
func TestRoomIsReadOnce(t *testing.T) {
	x := makeBed(t)
	x.feed(64, count(0, 64)...)
	x.view(poke(0, 4, word(5)...), poke(1, 4, word(64)...))
	x.feed(5, count(64, 64)...)
	x.reads(1)
	x.told(4, 5)
	x.told(6, 69)
	x.bytes(160, slices.Concat(count(64, 5), count(5, 59))...)
}

// Reads that err count too, and what is due there is done.
func TestRewritesOfRefusedCalls(t *testing.T) {
	x := makeBed(t)
	x.c = console(t, size)
	x.view(poke(0, 200, 1), poke(1, 201, 2), poke(2, 202, 3))
	if n, clamped, e := x.c.Drain(x.v); n != 0 || clamped || e != api.ErrArg {
		t.Errorf("Drain = %d, %v, %v", n, clamped, e)
	}
	x.reads(1)
	if n, e := x.c.Feed(x.v, []byte{1}); n != 0 || e != api.ErrArg {
		t.Errorf("Feed = %d, %v", n, e)
	}
	x.reads(2)
	x.bytes(200, 1, 2, 0)
	if x.c.Mfn() != size || x.c.Lines() != nil || x.c.Rest() != "" {
		t.Error("the console has changed")
	}
}
