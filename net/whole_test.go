package net_test

import (
	"bytes"
	"math"
	"slices"
	"testing"

	"tenement/api"
	"tenement/bridge"
	"tenement/grant"
	"tenement/net"
	"tenement/p2m"
	"tenement/phys"
	"tenement/ring"
	"tenement/view"
)

// game is two backends of two fronts at one switch, and their ghost. The backends are at ports 0 and 2; what is at port 1 is done by the test itself.
type game struct {
	t      *testing.T
	m      *phys.Machine
	g      *grant.Grants
	s      *bridge.Bridge
	d      [2]*net.Back
	v      *view.View
	dice   *dice
	ghost  *ghost
	frames []api.Frame // as they always are
}

func newGame(t *testing.T, d *dice) *game {
	t.Helper()
	x := &game{t: t, dice: d, ghost: &ghost{why: map[string]int{}}}
	x.m, _ = phys.New(total)
	x.g = grant.New(x.m)
	x.m.Alloc(0)
	for front := 1; front < 3; front++ {
		for range each {
			x.m.Alloc(front)
		}
	}
	for mfn := range nobody {
		x.both(mfn, 0, filled(mfn)...)
	}
	x.s, _ = bridge.New(3)
	x.ghost.s, _ = bridge.New(3)
	for i := range 2 {
		x.makeFront(i + 1)
		var e api.Errno
		at := first(i + 1)
		x.d[i], e = net.New(x.g, 0, i+1, at+atOut, at+atIn, x.s, 2*i)
		want(t, "New", e, api.OK)
		x.ghost.d[i] = device{front: i + 1, port: 2 * i}
	}
	for port := range 3 {
		x.rate(port, 4000, 300)
	}
	x.frames = x.states()
	return x
}

// makeFront gives a front its places, entries and rings.
func (x *game) makeFront(front int) {
	x.t.Helper()
	p, _ := p2m.New(places)
	for place := range each {
		p.Set(place, first(front)+place)
	}
	p.Set(hers, first(3-front)+atBuf)
	p.Set(gone, nobody)
	want(x.t, "Join", x.g.Join(front, first(front), p), api.OK)
	want(x.t, "Get", x.m.Get(first(front)+atTab, front, api.KL1), api.OK)
	x.entries(front)
	x.both(first(front)+atOut, 0, make([]byte, 256)...)
	x.both(first(front)+atIn, 0, make([]byte, 256)...)
}

// entries lets the first ones of a front permit its places, and others them in other ways.
func (x *game) entries(front int) {
	x.t.Helper()
	x.both(first(front), 0, make([]byte, 256)...)
	for ref := range places {
		x.both(first(front), 8*ref, packed(x.t, api.Grant{Kind: 1, Gpfn: ref})...)
	}
	x.both(first(front), 8*10, packed(x.t, api.Grant{Kind: 1, RO: true, Gpfn: atBuf})...)
	x.both(first(front), 8*11, packed(x.t, api.Grant{Kind: 1, Sub: true, Gpfn: atBuf + 1, Off: 30, Len: 20})...)
	x.both(first(front), 8*31, packed(x.t, api.Grant{Kind: 1, Gpfn: atBuf + 1})...)
}

// both lays bytes into a frame of the machine's and of the ghost's.
func (x *game) both(mfn, off int, b ...byte) {
	x.t.Helper()
	want(x.t, "Write", x.m.Write(mfn, off, b), api.OK)
	copy(x.ghost.bytes[mfn][off:], b)
}

func (x *game) rate(port, burst, rate int) {
	x.s.Rate(port, burst, rate)
	x.ghost.s.Rate(port, burst, rate)
}

func (x *game) states() []api.Frame {
	var l []api.Frame
	for mfn := range total {
		f, _ := x.m.Frame(mfn)
		l = append(l, f)
	}
	return l
}

// ref is most often one that permits a buffer.
func (d *dice) ref() byte {
	return byte(d.of(atBuf, atBuf+1, 31, atBuf, atBuf+1, 31, atBuf, 10, 11, 11, 0, 1, 2, atTab, hers, gone, 8, 9, d.below(40), d.below(256)))
}

// slot is the bytes of a request of either kind.
func (d *dice) slot() []byte {
	b := []byte{d.ref(), byte(d.of(0, 0, 1, 16, 30, 200, d.below(256))), byte(d.of(2, 3, 9, 20, 40, 60, 127, 128, d.below(256))), byte(d.below(256)), byte(d.below(256)), byte(d.of(0, 0, 1, 255))}
	for range 10 {
		b = append(b, byte(d.below(256)))
	}
	return b
}

// laid is an entry's bytes, of a part or not; most of them permit domain 0 a page.
func (d *dice) laid() []byte {
	b := []byte{byte(d.of(1, 1, 1, 1, 1, 1, 5, 9, 0, 2, 13, 3, 0x11)), 0, 0, 0, byte(d.of(atBuf, atBuf+1, atBuf, atBuf+1, d.below(places+1))), 0, byte(d.of(0, 16, 200)), byte(d.of(7, 55, 56, 127, 255))}
	if d.below(20) == 0 {
		b[1+d.of(0, 1, 2, 4)] = 1
	}
	return b
}

// letter is bytes that begin as a frame does, most often.
func (d *dice) letter() []byte {
	b := make([]byte, 2+d.below(40))
	for i := range b {
		b[i] = byte(d.below(256))
	}
	b[0], b[1] = byte(d.of(255, 255, 1, 2, 3, d.below(256))), byte(d.of(1, 2, 3, d.below(200), d.below(200), d.below(256)))
	return b
}

// change is what a front may lay somewhere.
func (d *dice) change(g *ghost) api.Poke {
	dev := g.d[d.below(2)]
	at, ring := first(dev.front), d.below(2)
	p := api.Poke{At: d.below(8) + d.of(0, 0, 8)}
	switch d.below(9) {
	case 0:
		index := dev.taken[ring] + d.of(0, 1, 1, 2, 3, 8, 9, 40000)
		p.Mfn, p.Bytes = at+atOut+ring, []byte{byte(index), byte(index >> 8)}
	case 1, 2:
		p.Mfn, p.Off, p.Bytes = at+atOut+ring, 16+16*d.below(8), d.slot()
	case 3, 4:
		p.Mfn, p.Off, p.Bytes = at, 8*int(d.ref()%32), d.laid()
	case 5, 6:
		p.Mfn, p.Off, p.Bytes = at+atBuf+d.below(2), d.of(0, 1, 16, 30, 200), d.letter()
	default:
		p.Mfn, p.Off, p.Bytes = d.of(home, nobody, at+atTab, at+atBuf), d.below(256), []byte{byte(d.below(256)), byte(d.below(256))}
	}
	return p
}

// lays does what the fronts may do between two calls, and prepares what they do in the next one.
func (x *game) lays() {
	x.t.Helper()
	for i := range 2 {
		dev, ring := &x.ghost.d[i], x.dice.below(2)
		n := x.dice.of(1, 2, 3, 8, 0, 9)
		for k := range n {
			x.both(dev.page(ring), 16+16*((dev.taken[ring]+k)%8), x.dice.slot()...)
		}
		x.both(dev.page(ring), 0, byte(dev.taken[ring]+n), byte((dev.taken[ring]+n)>>8))
		for k := range 2 {
			x.both(first(i+1)+atBuf+k, x.dice.of(0, 1, 16, 30, 200), x.dice.letter()...)
		}
		if x.dice.below(4) == 0 {
			x.entries(i + 1)
		}
	}
	for range x.dice.below(3) {
		if p := x.dice.change(x.ghost); may(p.Mfn) && p.Off+len(p.Bytes) <= 256 {
			x.both(p.Mfn, p.Off, p.Bytes...)
		}
	}
	x.ghost.pokes, x.ghost.reads = nil, 0
	for range x.dice.of(0, 0, 1, 2, 6, 12) {
		x.ghost.pokes = append(x.ghost.pokes, x.dice.change(x.ghost))
	}
	var e api.Errno
	x.v, e = view.New(x.m, x.ghost.pokes)
	want(x.t, "view.New", e, api.OK)
}

// others does something to both switches that no backend does.
func (x *game) others() {
	x.t.Helper()
	switch x.dice.below(12) {
	case 0:
		port := x.dice.of(0, 2)
		x.rate(port, x.dice.of(0, 60, 4000), x.dice.of(0, 20, 300))
	case 1:
		if x.dice.below(8) == 0 {
			port := x.dice.below(3)
			want(x.t, "Down", x.s.Down(port), x.ghost.s.Down(port))
		}
	case 2, 3, 4, 5:
		want(x.t, "Tick", x.s.Tick(), x.ghost.s.Tick())
	case 6, 7:
		frame := x.dice.letter()
		e := x.s.Send(1, frame)
		want(x.t, "Send", e, x.ghost.s.Send(1, frame))
		if e == api.OK {
			x.ghost.sent = append(x.ghost.sent, letter{1, string(frame)})
		}
	default:
		if frame, e := x.s.Head(1); e == api.OK && !x.ghost.sentByOthers(1, frame) {
			x.t.Fatalf("for port 1 comes %x, which nobody has sent", frame)
		}
		want(x.t, "Done", x.s.Done(1, true), x.ghost.s.Done(1, true))
	}
}

// step does a Send or a Deliver of a backend and of its ghost.
func (x *game) step() {
	x.t.Helper()
	i, most := x.dice.below(2), x.dice.of(8, 8, math.MaxInt, 1, 2, 0)
	call, do, must := "Send", x.d[i].Send, x.ghost.send
	if x.dice.below(2) == 0 {
		call, do, must = "Deliver", x.d[i].Deliver, x.ghost.deliver
		if frame, e := x.s.Head(2 * i); e == api.OK && !x.ghost.sentByOthers(2*i, frame) {
			x.t.Fatalf("for port %d waits %x, which nobody else has sent", 2*i, frame)
		}
	}
	n := must(&x.ghost.d[i], most)
	if got, e := do(x.v, most); got != n || e != api.OK {
		x.t.Fatalf("%s(%d) = %d, %v, not %d", call, most, got, e, n)
	}
	if x.v.Reads() != x.ghost.reads {
		x.t.Fatalf("%s(%d): %d reads, not %d", call, most, x.v.Reads(), x.ghost.reads)
	}
}

// compare asks that both have come to the same.
func (x *game) compare() {
	x.t.Helper()
	for mfn := range total {
		if b, _ := x.m.Read(mfn, 0, 256); !bytes.Equal(b, x.ghost.bytes[mfn][:]) {
			x.t.Fatalf("frame %d is %x, not %x", mfn, b, x.ghost.bytes[mfn])
		}
	}
	if l := x.states(); !slices.Equal(l, x.frames) || len(x.g.Maps(0)) != 0 {
		x.t.Fatalf("frames are %v, not %v", l, x.frames)
	}
	for port := range 3 {
		c, _ := x.s.Counts(port)
		must, _ := x.ghost.s.Counts(port)
		head, e := x.s.Head(port)
		other, oe := x.ghost.s.Head(port)
		if c != must || !bytes.Equal(head, other) || e != oe || x.s.Credit(port) != x.ghost.s.Credit(port) {
			x.t.Fatalf("port %d: %+v, %x, not %+v, %x", port, c, head, must, other)
		}
		if c.Taken != c.Forwarded+c.Malformed+c.NoCredit || c.Directed != c.Delivered+c.Queued+c.NoBuffer+c.RingFull {
			x.t.Fatalf("port %d: %+v", port, c)
		}
	}
	for i := range 2 {
		out, in := x.d[i].Rings()
		for k, r := range []*ring.Back{out, in} {
			taken, seen := x.ghost.d[i].taken[k], x.ghost.d[i].seen[k]
			if int(r.Taken()) != taken%65536 || r.Laid() != r.Taken() || r.Waiting() != seen-taken {
				x.t.Fatalf("device %d, ring %d: taken %d, laid %d, %d wait", i, k, r.Taken(), r.Laid(), r.Waiting())
			}
		}
	}
}

// P15.5, and with it P15.2 and P15.3 for requests of all kinds in any order, with rewrites between all reads.
func TestAgainstAGhost(t *testing.T) {
	d := new(dice)
	why := map[string]int{}
	for range 300 {
		x := newGame(t, d)
		for range 60 {
			x.others()
			x.others()
			x.lays()
			x.step()
			x.compare()
		}
		for word, n := range x.ghost.why {
			why[word] += n
		}
	}
	for _, word := range []string{"no entry", "too long", "no frame", "no credit", "sent", "no buffer", "read-only", "too small", "a table", "delivered"} {
		if why[word] < 100 {
			t.Errorf("%s: too seldom: %v", word, why)
		}
	}
}

// P15.5: between two fronts that behave well each frame comes once, in order and as it was sent, or it was dropped for want of room. A frame tells its sender and its number.
func TestEachFrameOnceAndAsItWasSent(t *testing.T) {
	x := newGame(t, new(dice))
	var out, in [2]*ring.Front
	var sent, came [2]int
	for i := range 2 {
		out[i], _ = ring.Open(x.m, first(i+1)+atOut)
		in[i], _ = ring.Open(x.m, first(i+1)+atIn)
	}
	v, _ := view.New(x.m, nil)
	for range 6000 {
		x.s.Tick()
		i := x.dice.below(2)
		switch x.dice.below(4) {
		case 0, 1:
			b, _ := net.Packet(atBuf, 0, 128, sent[i]%65536)
			x.m.Write(first(i+1)+atBuf, 0, serial(i, sent[i]))
			want(t, "Put", out[i].Put(b), api.OK)
			if n, e := x.d[i].Send(v, 1); n != 1 || e != api.OK {
				t.Fatalf("Send = %d, %v", n, e)
			}
			a, _ := out[i].Get()
			if id, status, n, _ := net.Reply(a); id != sent[i]%65536 || status != api.SOK || n != 0 {
				t.Fatalf("frame %d: %x", sent[i], a)
			}
			sent[i]++
		default:
			b, _ := net.Buffer(atBuf+1, 5)
			if in[i].Room() == 8 {
				want(t, "Put", in[i].Put(b), api.OK)
			}
			if n, _ := x.d[i].Deliver(v, 1); n == 0 {
				continue
			}
			in[i].Get()
			got, _ := x.m.Read(first(i+1)+atBuf+1, 0, 128)
			n := int(got[3]) + 256*int(got[4])
			if n < came[i] || n >= sent[1-i] || !bytes.Equal(got, serial(1-i, n)) {
				t.Fatalf("behind frame %d of %d comes %x", came[i], sent[1-i], got)
			}
			came[i] = n + 1
		}
	}
	for i := range 2 {
		c, _ := x.s.Counts(2 * i)
		if c.Taken != sent[i] || c.Forwarded != sent[i] || c.Directed != sent[1-i] || c.NoBuffer != 0 || c.Delivered < 1000 || c.RingFull == 0 || c.Delivered+c.Queued+c.RingFull != c.Directed {
			t.Errorf("device %d: %+v; %d and %d were sent", i, c, sent[i], sent[1-i])
		}
	}
}

// serial is the n-th frame of a front, to everybody.
func serial(front, n int) []byte {
	b := bytes.Repeat([]byte{byte(n * 3)}, 128)
	copy(b, []byte{255, byte(1 + front), byte(front), byte(n), byte(n >> 8)})
	return b
}

// Each request is answered once, in order, over more of them than the rings' numbers tell apart.
func TestOverTheEndOfTheNumbers(t *testing.T) {
	x := makeBed(t)
	for id := range 70000 {
		x.putOut(raw(b1, 0, 1, 0, byte(id), byte(id>>8)))
		x.putIn(raw(b2, 0, 0, 0, byte(id), byte(id>>8)))
		x.comes([]byte{255, 1, byte(id)})
		if id%4 != 3 {
			continue
		}
		want(t, "Rate", x.s.Rate(0, api.MaxCredit, 0), api.OK)
		x.send(8, 4)
		x.deliver(8, 4)
		for i := id - 3; i <= id; i++ {
			x.answered(x.out, i%65536, api.SBad, 0)
			x.answered(x.in, i%65536, api.SOK, 3)
		}
		x.page(b2, []byte{255, 1, byte(id)}, filled(b2)[3:])
		if t.Failed() {
			t.FailNow()
		}
	}
	x.counts(port, api.Counts{Taken: 70000, Malformed: 70000, Directed: 70000, Delivered: 70000})
}

// P5: the same calls tell the same, whatever is done to other backends meanwhile.
func TestSameCallsSameAnswers(t *testing.T) {
	run := func(others bool) ([total][256]byte, [3]api.Counts) {
		x, y := newGame(t, new(dice)), newGame(t, new(dice))
		for range 200 {
			x.others()
			x.lays()
			x.step()
			if others {
				y.others()
				y.lays()
				y.step()
			}
		}
		var pages [total][256]byte
		var counts [3]api.Counts
		for mfn := range total {
			b, _ := x.m.Read(mfn, 0, 256)
			pages[mfn] = [256]byte(b)
		}
		for port := range 3 {
			counts[port], _ = x.s.Counts(port)
		}
		return pages, counts
	}
	a, b := run(false)
	c, d := run(true)
	if a != c || b != d || b[0].Forwarded == 0 || b[2].Delivered == 0 {
		t.Errorf("the same calls have not told the same: %+v, %+v", b, d)
	}
}

// P1: no call panics, when what it is given can't be.
func TestWhatCantBe(t *testing.T) {
	d := new(dice)
	ends := []int{math.MinInt, math.MinInt + 1, -1, 0, 1, 2, 3, 4, 7, 8, 255, 256, 65535, 65536, 1 << 32, math.MaxInt - 1, math.MaxInt}
	x := makeBed(t)
	for range 20000 {
		net.Packet(d.of(ends...), d.of(ends...), d.of(ends...), d.of(ends...))
		net.Buffer(d.of(ends...), d.of(ends...))
		b := make([]byte, d.of(0, 1, 2, 7, 8, 9, 15, 16, 17, 300))
		for i := range b {
			b[i] = byte(d.below(256))
		}
		net.Reply(b)
		back, e := net.New(x.g, d.of(ends...), d.of(ends...), d.of(ends...), d.of(ends...), x.s, d.of(ends...))
		if e == api.OK {
			x.lay(d.of(outs, ins, table, b1), d.below(200), d.slot()...)
			x.s.Send(d.below(3), d.letter())
			back.Send(x.v, d.of(ends...))
			back.Deliver(x.v, d.of(ends...))
		}
	}
	for range 500 { // Most of the numbers above are refused.
		back, e := net.New(x.g, d.below(8), d.below(8), d.below(12), d.below(12), x.s, d.below(3))
		want(t, "New", e, api.OK)
		x.lay(d.of(outs, ins, table, b1), d.below(200), d.slot()...)
		x.s.Send(d.below(3), d.letter())
		back.Send(x.v, d.of(ends...))
		back.Deliver(x.v, d.of(ends...))
	}
}
