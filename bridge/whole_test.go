package bridge_test

import (
	"bytes"
	"math"
	"slices"
	"testing"

	"tenement/api"
	"tenement/bridge"
)

// dice makes numbers by a fixed rule.
type dice uint32

func (d *dice) of(l ...int) int { return l[d.below(len(l))] }

func (d *dice) below(n int) int {
	*d = *d*1664525 + 1013904223
	return int(*d>>12) % n
}

// letter is a frame that waits for a port.
type letter struct {
	port  int
	bytes []byte
}

// home is where an address was seen.
type home struct {
	addr byte
	port int
}

// ghost is a switch that has lists alone: all that waits, whomever for, in the order in which it came, and the addresses with their ports.
type ghost struct {
	n       int
	burst   [api.MaxDoms]int
	rate    [api.MaxDoms]int
	credit  [api.MaxDoms]int
	numbers [api.MaxDoms]api.Counts
	post    []letter
	homes   []home
}

func (g *ghost) none(port int) bool { return port < 0 || port >= g.n }

func (g *ghost) setRate(port, burst, rate int) api.Errno {
	if g.none(port) || burst < 0 || burst > 1<<16 || rate < 0 || rate > 1<<16 {
		return api.ErrArg
	}
	g.burst[port], g.rate[port], g.credit[port] = burst, rate, burst
	return api.OK
}

func (g *ghost) tick() {
	for port := range g.n {
		for range g.rate[port] {
			if g.credit[port] == g.burst[port] {
				break
			}
			g.credit[port]++
		}
	}
}

func (g *ghost) bad(port int) api.Errno {
	if g.none(port) {
		return api.ErrArg
	}
	g.numbers[port].Taken++
	g.numbers[port].Malformed++
	return api.OK
}

func (g *ghost) home(addr byte) int {
	return slices.IndexFunc(g.homes, func(h home) bool { return h.addr == addr })
}

func (g *ghost) send(port int, frame []byte) api.Errno {
	switch {
	case g.none(port):
		return api.ErrArg
	case len(frame) < 2 || len(frame) > 128 || frame[1] == 255:
		g.bad(port)
		return api.ErrForm
	}
	g.numbers[port].Taken++
	if g.credit[port] < len(frame) {
		g.numbers[port].NoCredit++
		return api.ErrFull
	}
	g.credit[port] -= len(frame)
	g.numbers[port].Forwarded++
	if at := g.home(frame[1]); at >= 0 {
		g.homes[at].port = port
	} else if len(g.homes) < 64 {
		g.homes = append(g.homes, home{frame[1], port})
	}
	at := g.home(frame[0])
	for to := range g.n {
		if to == port || at >= 0 && g.homes[at].port != to {
			continue
		}
		g.numbers[to].Directed++
		if len(g.waits(to)) == 4 {
			g.numbers[to].RingFull++
		} else {
			g.post = append(g.post, letter{to, slices.Clone(frame)})
		}
	}
	return api.OK
}

// waits tells the places in the post of what waits for a port.
func (g *ghost) waits(port int) []int {
	var l []int
	for i, x := range g.post {
		if x.port == port {
			l = append(l, i)
		}
	}
	return l
}

func (g *ghost) head(port int) ([]byte, api.Errno) {
	if g.none(port) {
		return nil, api.ErrArg
	}
	l := g.waits(port)
	if len(l) == 0 {
		return nil, api.ErrNone
	}
	return g.post[l[0]].bytes, api.OK
}

func (g *ghost) done(port int, delivered bool) api.Errno {
	if _, e := g.head(port); e != api.OK {
		return e
	}
	if delivered {
		g.numbers[port].Delivered++
	} else {
		g.numbers[port].NoBuffer++
	}
	at := g.waits(port)[0]
	g.post = slices.Delete(g.post, at, at+1)
	return api.OK
}

func (g *ghost) down(port int) api.Errno {
	if g.none(port) {
		return api.ErrArg
	}
	g.homes = slices.DeleteFunc(g.homes, func(h home) bool { return h.port == port })
	g.numbers[port].NoBuffer += len(g.waits(port))
	g.post = slices.DeleteFunc(g.post, func(x letter) bool { return x.port == port })
	return api.OK
}

func (g *ghost) picture() picture {
	p := picture{ports: g.n, credits: g.credit}
	for port := range g.n {
		p.counts[port] = g.numbers[port]
		p.counts[port].Queued = len(g.waits(port))
		head, _ := g.head(port)
		p.heads[port] = string(head)
	}
	for addr := range p.known {
		p.known[addr] = -1
		if at := g.home(byte(addr)); at >= 0 {
			p.known[addr] = g.homes[at].port
		}
	}
	return p
}

// port is one of the switch's, but for a few that are none.
func (d *dice) port(n int) int {
	if d.below(30) == 0 {
		return d.of(-1, n, 8, math.MinInt, math.MaxInt)
	}
	return d.below(n)
}

// frame is one from and to few addresses, or to many, so that at times no more can be learnt; a few are malformed.
func (d *dice) frame(many bool) []byte {
	addr := func() byte { return byte(d.of(0, 1, 2, 3, 4, 5, 200, 254, d.below(256))) }
	if many {
		addr = func() byte { return byte(d.below(256)) }
	}
	b := make([]byte, d.of(2, 2, 2, 3, 4, 9, 20, 60, 127, 128, d.of(0, 1, 129, 200, 5, 6, 7)))
	for i := range b {
		b[i] = byte(d.below(256))
	}
	if len(b) > 1 {
		b[0], b[1] = addr(), addr()
		if d.below(4) == 0 {
			b[0] = 255
		}
	}
	return b
}

// step does one call by a fixed rule to a switch and its ghost, and tells the switch's error.
func (d *dice) step(t *testing.T, b *bridge.Bridge, g *ghost, many bool) api.Errno {
	t.Helper()
	port := d.port(g.n)
	var e api.Errno
	switch d.below(24) {
	case 0:
		burst, rate := d.of(0, 5, 100, 300, 65536, -1, 65537), d.of(0, 1, 2, 40, 400, 65536, -1, 65537)
		e = b.Rate(port, burst, rate)
		want(t, "Rate", e, g.setRate(port, burst, rate))
	case 1, 2, 3, 4:
		g.tick()
		want(t, "Tick", b.Tick(), api.OK)
	case 5:
		e = b.Bad(port)
		want(t, "Bad", e, g.bad(port))
	case 6:
		if many && d.below(8) > 0 {
			break
		}
		e = b.Down(port)
		want(t, "Down", e, g.down(port))
	case 7, 8, 9, 10, 11, 12, 13:
		delivered := d.below(2) == 0
		e = b.Done(port, delivered)
		want(t, "Done", e, g.done(port, delivered))
	default:
		frame := d.frame(many)
		e = b.Send(port, frame)
		want(t, "Send", e, g.send(port, frame))
		clear(frame)
	}
	return e
}

// wantSums asks for P14.5's sums.
func wantSums(t *testing.T, b *bridge.Bridge) {
	t.Helper()
	for port := range b.Ports() {
		c := counts(t, b, port)
		if c.Taken != c.Forwarded+c.Malformed+c.NoCredit || c.Directed != c.Delivered+c.Queued+c.NoBuffer+c.RingFull {
			t.Errorf("port %d: %+v", port, c)
		}
	}
}

// P14.5, and with it all others, for calls in any order.
func TestAgainstAGhost(t *testing.T) {
	d := new(dice)
	met := map[api.Errno]int{}
	full, lost := 0, 0
	for round := range 80 {
		g := &ghost{n: d.of(1, 2, 3, 4, 8)}
		b, e := bridge.New(g.n)
		want(t, "New", e, api.OK)
		for port := range g.n {
			g.setRate(port, 300, 40)
			b.Rate(port, 300, 40)
		}
		for i := range 250 {
			met[d.step(t, b, g, round%3 == 0)]++
			wantSame(t, b, g.picture())
			wantSums(t, b)
			if len(g.homes) == 64 {
				full++
			}
			if t.Failed() {
				t.Fatalf("round %d, step %d, of %d ports", round, i, g.n)
			}
		}
		for port := range g.n {
			lost += counts(t, b, port).RingFull
			for len(g.waits(port)) > 0 {
				frame, _ := g.head(port)
				wantHead(t, b, port, frame, api.OK)
				want(t, "Done", b.Done(port, true), g.done(port, true))
			}
			wantHead(t, b, port, nil, api.ErrNone)
		}
	}
	for _, e := range []api.Errno{api.OK, api.ErrArg, api.ErrForm, api.ErrNone, api.ErrFull} {
		if met[e] == 0 {
			t.Errorf("%v was not met", e)
		}
	}
	if full == 0 || lost == 0 {
		t.Errorf("no room for addresses %d times, for frames %d times", full, lost)
	}
}

// P14.5: each frame that waits for a port was sent by another one, byte for byte, and comes to no port twice. Each frame tells its number and its port.
func TestEachOnceAndNeverBack(t *testing.T) {
	d := new(dice)
	b := made(t, 5)
	var sent [][]byte
	var came [5]map[int]bool
	for port := range came {
		came[port] = map[int]bool{}
	}
	for n := range 3000 {
		from := d.below(5)
		frame := append([]byte{byte(d.of(255, 0, 1, 2, 3, 4, 5)), byte(d.below(8)), byte(from), byte(n), byte(n >> 8)}, make([]byte, d.below(124))...)
		b.Rate(from, 128, 0)
		want(t, "Send", b.Send(from, frame), api.OK)
		sent = append(sent, frame)
		for range d.below(5) {
			port := d.below(5)
			got, e := b.Head(port)
			if e != api.OK {
				continue
			}
			b.Done(port, true)
			id := int(got[3]) + 256*int(got[4])
			if !bytes.Equal(got, sent[id]) || int(got[2]) == port || came[port][id] {
				t.Fatalf("to port %d came %x; %x was sent", port, got, sent[id])
			}
			came[port][id] = true
		}
	}
	for port := range came {
		if c := counts(t, b, port); len(came[port]) < 100 || c.Delivered != len(came[port]) || c.RingFull == 0 {
			t.Errorf("port %d: %d came, %+v", port, len(came[port]), c)
		}
	}
	wantSums(t, b)
}

// P1, P2: no call panics or changes anything, when the numbers that it is given can't be.
func TestNumbersAtTheirEnds(t *testing.T) {
	b := busy(t)
	was := pictureOf(b)
	ends := []int{math.MinInt, math.MinInt + 1, math.MinInt32, -257, -1, 65537, math.MaxInt32, math.MaxInt - 1, math.MaxInt}
	for _, x := range ends {
		if c, e := bridge.New(x); c != nil || e != api.ErrArg {
			t.Errorf("New(%d): %v", x, e)
		}
		b.Credit(x)
		b.Send(x, nil)
		b.Send(x, []byte{255, 1})
		b.Bad(x)
		b.Head(x)
		b.Done(x, true)
		b.Done(x, false)
		b.Known(x)
		b.Down(x)
		b.Counts(x)
		for _, y := range append(ends, 0, 1, 65536) {
			for port := range 3 {
				b.Rate(port, x, y)
				b.Rate(port, y, x)
			}
			b.Rate(x, y, y)
			b.Rate(x, 1, y)
			b.Rate(x, y, 1)
		}
	}
	wantSame(t, b, was)
}

// P5: the same calls tell the same, whatever is done to other switches meanwhile.
func TestSameCallsSameAnswers(t *testing.T) {
	a, b, other := made(t, 4), made(t, 4), made(t, 4)
	one, two, third := dice(5), dice(5), dice(99)
	idle := &ghost{n: 4}
	for range 400 {
		do(&one, a)
		do(&two, b)
		do(&third, other)
		wantSame(t, a, pictureOf(b))
	}
	if pictureOf(a) == idle.picture() || pictureOf(a) == pictureOf(other) {
		t.Error("nothing was done")
	}
}

// do does one call by a fixed rule.
func do(d *dice, b *bridge.Bridge) {
	switch port := d.below(4); d.below(5) {
	case 0:
		b.Done(port, true)
	case 1:
		b.Tick()
	case 2:
		if d.below(20) == 0 {
			b.Down(port)
		}
	default:
		b.Send(port, d.frame(false))
	}
}
