package event_test

import (
	"math"
	"testing"

	"tenement/api"
	"tenement/event"
)

// dice makes numbers by a fixed rule.
type dice uint32

func (d *dice) of(l ...int) int {
	*d = *d*1664525 + 1013904223
	return l[int(*d>>16)%len(l)]
}

// end is a port of a domain.
type end struct{ dom, port int }

// ghost is events that have no ports: each thing that a port may be or have is a set of the ends of which it holds.
type ghost struct {
	waits map[end]int // for a domain
	peers map[end]end
	virqs map[end]int
	bits  map[end]bool
	masks map[end]bool
	ups   map[int]bool
}

func newGhost() *ghost {
	return &ghost{map[end]int{}, map[end]end{}, map[end]int{}, map[end]bool{}, map[end]bool{}, map[int]bool{}}
}

func (g *ghost) free(at end) bool {
	_, a := g.waits[at]
	_, b := g.peers[at]
	_, c := g.virqs[at]
	return !a && !b && !c
}

// hole is a domain's first free end.
func (g *ghost) hole(dom int) (end, api.Errno) {
	for n := range 32 {
		if at := (end{dom, n}); g.free(at) {
			return at, api.OK
		}
	}
	return end{}, api.ErrFull
}

func (g *ghost) alloc(dom, remote int) (int, api.Errno) {
	if wrong(dom, 8) || wrong(remote, 8) {
		return 0, api.ErrArg
	}
	at, e := g.hole(dom)
	if e == api.OK {
		g.waits[at] = remote
	}
	return at.port, e
}

func (g *ghost) bind(dom, remote, port int) (int, api.Errno) {
	if wrong(dom, 8) || wrong(remote, 8) || wrong(port, 32) {
		return 0, api.ErrArg
	}
	to := end{remote, port}
	if who, ok := g.waits[to]; !ok || who != dom {
		return 0, api.ErrPort
	}
	at, e := g.hole(dom)
	if e == api.OK {
		delete(g.waits, to)
		g.peers[at], g.peers[to] = to, at
	}
	return at.port, e
}

func (g *ghost) virq(dom, virq int) (int, api.Errno) {
	if wrong(dom, 8) || wrong(virq, 4) {
		return 0, api.ErrArg
	}
	if _, ok := g.port(dom, virq); ok {
		return 0, api.ErrTwice
	}
	at, e := g.hole(dom)
	if e == api.OK {
		g.virqs[at] = virq
	}
	return at.port, e
}

// port is the end of a virtual interrupt.
func (g *ghost) port(dom, virq int) (end, bool) {
	for at, n := range g.virqs {
		if at.dom == dom && n == virq {
			return at, true
		}
	}
	return end{}, false
}

func (g *ghost) close(dom, port int) api.Errno {
	at := end{dom, port}
	if wrong(dom, 8) || wrong(port, 32) {
		return api.ErrArg
	}
	if g.free(at) {
		return api.ErrPort
	}
	if to, ok := g.peers[at]; ok {
		delete(g.peers, to)
		g.waits[to] = dom
	}
	delete(g.waits, at)
	delete(g.peers, at)
	delete(g.virqs, at)
	delete(g.bits, at)
	delete(g.masks, at)
	return api.OK
}

func (g *ghost) pend(at end) {
	g.bits[at] = true
	if !g.masks[at] {
		g.ups[at.dom] = true
	}
}

func (g *ghost) send(dom, port int) api.Errno {
	if wrong(dom, 8) || wrong(port, 32) {
		return api.ErrArg
	}
	to, ok := g.peers[end{dom, port}]
	if !ok {
		return api.ErrPort
	}
	g.pend(to)
	return api.OK
}

func (g *ghost) raise(dom, virq int) api.Errno {
	if wrong(dom, 8) || wrong(virq, 4) {
		return api.ErrArg
	}
	at, ok := g.port(dom, virq)
	if !ok {
		return api.ErrNone
	}
	g.pend(at)
	return api.OK
}

func (g *ghost) mask(dom, port int, on bool) api.Errno {
	at := end{dom, port}
	if wrong(dom, 8) || wrong(port, 32) {
		return api.ErrArg
	}
	if g.free(at) {
		return api.ErrPort
	}
	was := g.masks[at]
	delete(g.masks, at)
	if on {
		g.masks[at] = true
	} else if was && g.bits[at] {
		g.ups[dom] = true
	}
	return api.OK
}

func (g *ghost) clear(dom, port int) api.Errno {
	at := end{dom, port}
	if wrong(dom, 8) || wrong(port, 32) {
		return api.ErrArg
	}
	if g.free(at) {
		return api.ErrPort
	}
	delete(g.bits, at)
	return api.OK
}

func (g *ghost) drop(dom int) api.Errno {
	if wrong(dom, 8) {
		return api.ErrArg
	}
	for port := range 32 {
		g.close(dom, port)
	}
	delete(g.ups, dom)
	return api.OK
}

func wrong(n, end int) bool { return n < 0 || n >= end }

// picture tells what events must tell.
func (g *ghost) picture() picture {
	var s picture
	for at, remote := range g.waits {
		s.ports[at.dom][at.port] = unbound(remote)
	}
	for at, to := range g.peers {
		s.ports[at.dom][at.port] = bound(to.dom, to.port)
	}
	for at, virq := range g.virqs {
		s.ports[at.dom][at.port] = virqPort(virq)
	}
	for at := range g.bits {
		s.ports[at.dom][at.port].Pending = true
	}
	for at := range g.masks {
		s.ports[at.dom][at.port].Masked = true
	}
	for dom := range g.ups {
		s.up[dom] = true
	}
	return s
}

// Numbers of the calls.
const (
	cAlloc = iota
	cBind
	cVirq
	cClose
	cSend
	cRaise
	cMask
	cClear
	cTake
	cDrop
	calls
)

// act is a call and its arguments.
type act struct{ call, dom, a, b int }

// answer is what a call told.
type answer struct {
	n int
	e api.Errno
}

// roll chooses a call. Few domains have few ports, so that calls meet; now and then a number can't be.
func (d *dice) roll() act {
	c := act{call: d.of(cAlloc, cBind, cBind, cBind, cVirq, cClose, cSend, cSend, cRaise, cMask, cMask, cClear, cTake)}
	if d.of(0, 1, 2, 3, 4, 5, 6, 7, 8, 9, 10, 11) == 0 {
		c.call = d.of(cDrop, cClose)
	}
	c.dom = d.of(0, 0, 1, 1, 2, 7)
	switch c.call {
	case cAlloc:
		c.a = d.of(0, 1, 2, 7)
	case cBind:
		c.a, c.b = d.of(0, 1, 2, 7), d.of(0, 1, 2, 3, 4, 5, 6, 31)
	case cVirq, cRaise:
		c.a = d.of(0, 1, 2, 3)
	case cMask:
		c.b = d.of(0, 1)
		fallthrough
	default:
		c.a = d.of(0, 1, 2, 3, 4, 5, 6, 31)
	}
	switch d.of(0, 0, 0, 0, 0, 0, 0, 0, 0, 0, 1, 2, 3) {
	case 1:
		c.dom = d.of(-1, 8, math.MinInt)
	case 2:
		c.a = d.of(-1, 32, math.MaxInt)
	case 3:
		c.b = d.of(-1, 32, math.MaxInt)
	}
	return c
}

// do does a call.
func do(x *event.Events, c act) (r answer) {
	switch c.call {
	case cAlloc:
		r.n, r.e = x.Alloc(c.dom, c.a)
	case cBind:
		r.n, r.e = x.Bind(c.dom, c.a, c.b)
	case cVirq:
		r.n, r.e = x.Virq(c.dom, c.a)
	case cClose:
		r.e = x.Close(c.dom, c.a)
	case cSend:
		r.e = x.Send(c.dom, c.a)
	case cRaise:
		r.e = x.Raise(c.dom, c.a)
	case cMask:
		r.e = x.Mask(c.dom, c.a, c.b == 1)
	case cClear:
		r.e = x.Clear(c.dom, c.a)
	case cTake:
		var up bool
		if up, r.e = x.Take(c.dom); up {
			r.n = 1
		}
	case cDrop:
		r.e = x.Drop(c.dom)
	}
	return r
}

// must does the same call to a ghost.
func (g *ghost) must(c act) (r answer) {
	switch c.call {
	case cAlloc:
		r.n, r.e = g.alloc(c.dom, c.a)
	case cBind:
		r.n, r.e = g.bind(c.dom, c.a, c.b)
	case cVirq:
		r.n, r.e = g.virq(c.dom, c.a)
	case cClose:
		r.e = g.close(c.dom, c.a)
	case cSend:
		r.e = g.send(c.dom, c.a)
	case cRaise:
		r.e = g.raise(c.dom, c.a)
	case cMask:
		r.e = g.mask(c.dom, c.a, c.b == 1)
	case cClear:
		r.e = g.clear(c.dom, c.a)
	case cTake:
		if wrong(c.dom, 8) {
			r.e = api.ErrArg
		} else if g.ups[c.dom] {
			r.n = 1
			delete(g.ups, c.dom)
		}
	case cDrop:
		r.e = g.drop(c.dom)
	}
	return r
}

// wantBothWays asks that a bound port's peer is bound to it.
func wantBothWays(t *testing.T, s picture) {
	t.Helper()
	for dom := range s.ports {
		for port, p := range s.ports[dom] {
			if p.Kind != api.PBound {
				continue
			}
			q := s.ports[p.Remote][p.Peer]
			if q.Kind != api.PBound || q.Remote != dom || q.Peer != port {
				t.Fatalf("port %d of domain %d is bound to one that is %+v", port, dom, q)
			}
		}
	}
}

// wantBits asks of a call that it sets no bit but that of the bound peer or of the virtual interrupt's port, that none goes but by Clear, Close and Drop of its own domain, and that of what was set and is not masked the upcall is set.
func wantBits(t *testing.T, c act, r answer, was, is picture) {
	t.Helper()
	for dom := range is.ports {
		for port, p := range is.ports[dom] {
			old := was.ports[dom][port]
			if old.Pending && !p.Pending && (c.dom != dom || c.call != cDrop && (c.a != port || c.call != cClear && c.call != cClose)) {
				t.Fatalf("%+v cleared the bit of port %d of domain %d", c, port, dom)
			}
			if old.Pending || !p.Pending {
				continue
			}
			sent := r.e == api.OK && c.call == cSend && isPeer(was.ports[c.dom][c.a], dom, port)
			raised := r.e == api.OK && c.call == cRaise && c.dom == dom && p.Kind == api.PVirq && p.Virq == c.a
			if !sent && !raised {
				t.Fatalf("%+v set the bit of port %d of domain %d", c, port, dom)
			}
			if !p.Masked && !is.up[dom] {
				t.Fatalf("%+v set the bit of port %d of domain %d, and no upcall", c, port, dom)
			}
		}
	}
}

// isPeer tells whether a port is bound to that end.
func isPeer(p api.Port, dom, port int) bool {
	return p.Kind == api.PBound && p.Remote == dom && p.Peer == port
}

// P7.5, and with it P7.1 to P7.4 for calls in any order.
func TestAgainstAGhost(t *testing.T) {
	d := new(dice)
	met := map[[2]int]int{}
	for round := range 120 {
		x, g := event.New(), newGhost()
		if round%3 == 0 {
			crowd(x, g)
		}
		was := look(t, x)
		for step := range 250 {
			c := d.roll()
			is, must := do(x, c), g.must(c)
			if is != must {
				t.Fatalf("round %d, step %d: %+v: %+v, not %+v", round, step, c, is, must)
			}
			met[[2]int{c.call, int(is.e)}]++
			now := look(t, x)
			if now != g.picture() {
				t.Fatalf("round %d, step %d: %+v: not as it must be:\n%+v\n%+v", round, step, c, now, g.picture())
			}
			if is.e != api.OK && now != was {
				t.Fatalf("round %d, step %d: %+v was refused, and something has changed", round, step, c)
			}
			wantBothWays(t, now)
			wantBits(t, c, is, was, now)
			was = now
		}
	}
	wantMet(t, met)
}

// crowd takes almost all ports of two domains, so that the calls behind it meet full ones.
func crowd(x *event.Events, g *ghost) {
	for n := range api.MaxPorts - 1 {
		for _, c := range []act{{cAlloc, 0, 1, 0}, {cAlloc, 1, 0, 0}} {
			if n > 3 {
				c.a = 2
			}
			do(x, c)
			g.must(c)
		}
	}
}

// wantMet asks that each error that a call can tell was told.
func wantMet(t *testing.T, met map[[2]int]int) {
	t.Helper()
	used := []api.Errno{api.OK, api.ErrArg, api.ErrPort}
	for call, l := range [calls][]api.Errno{
		cAlloc: {api.OK, api.ErrArg, api.ErrFull},
		cBind:  {api.OK, api.ErrArg, api.ErrPort, api.ErrFull},
		cVirq:  {api.OK, api.ErrArg, api.ErrTwice, api.ErrFull},
		cClose: used,
		cSend:  used,
		cRaise: {api.OK, api.ErrArg, api.ErrNone},
		cMask:  used,
		cClear: used,
		cTake:  {api.OK, api.ErrArg},
		cDrop:  {api.OK, api.ErrArg},
	} {
		for _, e := range l {
			if met[[2]int{call, int(e)}] < 5 {
				t.Errorf("call %d has answered %v too seldom: %v", call, e, met)
			}
		}
	}
}

// Whatever was done, behind a Drop of each domain nothing is left.
func TestAllDropped(t *testing.T) {
	d := new(dice)
	for range 40 {
		b := makeBed(t)
		for range 150 {
			do(b.x, d.roll())
		}
		for dom := range api.MaxDoms {
			b.want("Drop", b.x.Drop(dom), api.OK)
		}
		b.same(picture{})
	}
}

// P1, P2: no call panics or changes anything, when the numbers that it is given can't be.
func TestNumbersAtTheirEnds(t *testing.T) {
	b := mixed(t)
	s := look(t, b.x)
	ends := []int{math.MinInt, math.MinInt + 1, math.MinInt32, -257, -1, 257, math.MaxInt32, math.MaxInt - 1, math.MaxInt}
	for _, n := range ends {
		for _, m := range append(ends, 0, 1) {
			for call := range calls {
				for _, k := range append(ends, 0, 1) {
					if r := do(b.x, act{call, n, m, k}); r != (answer{0, api.ErrArg}) {
						t.Fatalf("call %d of %d, %d, %d: %+v", call, n, m, k, r)
					}
				}
				if r := do(b.x, act{call, 0, n, m}); call != cTake && call != cDrop && r != (answer{0, api.ErrArg}) {
					t.Fatalf("call %d of 0, %d, %d: %+v", call, n, m, r)
				} else if call == cDrop {
					b = mixed(t)
				}
			}
			b.x.Port(n, m)
			b.x.Pending(n)
			b.x.Upcall(n)
		}
	}
	b.same(s)
}

// P5: the same calls tell the same, whatever was done to other events.
func TestSameCallsSameAnswers(t *testing.T) {
	var last picture
	var told []answer
	for round := range 2 {
		x, y := event.New(), event.New()
		d, other := new(dice), dice(round+7)
		for step := range 400 {
			r := do(x, d.roll())
			do(y, other.roll())
			if round == 0 {
				told = append(told, r)
			} else if told[step] != r {
				t.Fatalf("step %d: %+v, not %+v", step, r, told[step])
			}
		}
		now := look(t, x)
		if round == 1 && now != last {
			t.Error("two events with the same calls are not the same")
		}
		last = now
	}
}
