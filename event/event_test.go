package event_test

import (
	"math"
	"slices"
	"testing"

	"tenement/api"
	"tenement/event"
)

var noDomains = []int{math.MinInt, api.Hyper, api.NoOwner, api.MaxDoms, api.MaxDoms + 1, math.MaxInt}

var noPorts = []int{math.MinInt, -1, api.MaxPorts, api.MaxPorts + 1, math.MaxInt}

var noVirqs = []int{math.MinInt, -1, api.MaxVirqs, api.MaxVirqs + 1, math.MaxInt}

// bed is events whose calls are held against what they must tell.
type bed struct {
	t *testing.T
	x *event.Events
}

func makeBed(t *testing.T) *bed {
	t.Helper()
	x := event.New()
	if x == nil {
		t.Fatal("New: none")
	}
	return &bed{t: t, x: x}
}

func (b *bed) want(what string, got, e api.Errno) {
	b.t.Helper()
	if got != e {
		b.t.Errorf("%s: %v, not %v", what, got, e)
	}
}

func (b *bed) alloc(dom, remote, n int, e api.Errno) {
	b.t.Helper()
	if m, is := b.x.Alloc(dom, remote); m != n || is != e {
		b.t.Errorf("Alloc(%d, %d) = %d, %v, not %d, %v", dom, remote, m, is, n, e)
	}
}

func (b *bed) bind(dom, remote, port, n int, e api.Errno) {
	b.t.Helper()
	if m, is := b.x.Bind(dom, remote, port); m != n || is != e {
		b.t.Errorf("Bind(%d, %d, %d) = %d, %v, not %d, %v", dom, remote, port, m, is, n, e)
	}
}

func (b *bed) virq(dom, virq, n int, e api.Errno) {
	b.t.Helper()
	if m, is := b.x.Virq(dom, virq); m != n || is != e {
		b.t.Errorf("Virq(%d, %d) = %d, %v, not %d, %v", dom, virq, m, is, n, e)
	}
}

func (b *bed) take(dom int, up bool) {
	b.t.Helper()
	if is, e := b.x.Take(dom); is != up || e != api.OK {
		b.t.Errorf("Take(%d) = %v, %v, not %v", dom, is, e, up)
	}
}

func (b *bed) port(dom, port int, p api.Port) {
	b.t.Helper()
	if is, e := b.x.Port(dom, port); is != p || e != api.OK {
		b.t.Errorf("Port(%d, %d) = %+v, %v, not %+v", dom, port, is, e, p)
	}
}

func (b *bed) pending(dom int, l ...int) {
	b.t.Helper()
	if is := b.x.Pending(dom); !slices.Equal(is, l) {
		b.t.Errorf("Pending(%d) = %v, not %v", dom, is, l)
	}
}

func (b *bed) upcall(dom int, up bool) {
	b.t.Helper()
	if is := b.x.Upcall(dom); is != up {
		b.t.Errorf("Upcall(%d) = %v", dom, is)
	}
}

// fill takes all ports of a domain that are free.
func (b *bed) fill(dom int) {
	b.t.Helper()
	for range api.MaxPorts + 1 {
		if _, e := b.x.Alloc(dom, dom); e != api.OK {
			b.want("Alloc of one port more", e, api.ErrFull)
			return
		}
	}
	b.t.Errorf("domain %d has more than %d ports", dom, api.MaxPorts)
}

// picture is all that events tell.
type picture struct {
	ports [api.MaxDoms][api.MaxPorts]api.Port
	up    [api.MaxDoms]bool
}

func look(t *testing.T, x *event.Events) picture {
	t.Helper()
	var s picture
	for dom := range s.ports {
		var set []int
		for port := range s.ports[dom] {
			p, e := x.Port(dom, port)
			if e != api.OK {
				t.Fatalf("Port(%d, %d): %v", dom, port, e)
			}
			s.ports[dom][port] = p
			if p.Pending {
				set = append(set, port)
			}
		}
		if l := x.Pending(dom); !slices.Equal(l, set) {
			t.Fatalf("Pending(%d) = %v, not %v", dom, l, set)
		}
		s.up[dom] = x.Upcall(dom)
	}
	return s
}

// same asks that what was refused has changed nothing.
func (b *bed) same(s picture) {
	b.t.Helper()
	if look(b.t, b.x) != s {
		b.t.Error("something has changed")
	}
}

func unbound(remote int) api.Port { return api.Port{Kind: api.PUnbound, Remote: remote} }

func bound(remote, peer int) api.Port {
	return api.Port{Kind: api.PBound, Remote: remote, Peer: peer}
}

func virqPort(virq int) api.Port { return api.Port{Kind: api.PVirq, Virq: virq} }

// pended is the port with its bit set.
func pended(p api.Port) api.Port {
	p.Pending = true
	return p
}

// masked is the port with its mask on.
func masked(p api.Port) api.Port {
	p.Masked = true
	return p
}

// mixed is events of which domain 0 has a port unbound for domain 1, one bound to port 0 of domain 2, and one of virtual interrupt 3; domain 2 has its virtual interrupt 0 at port 1.
func mixed(t *testing.T) *bed {
	t.Helper()
	b := makeBed(t)
	b.alloc(0, 1, 0, api.OK)
	b.alloc(0, 2, 1, api.OK)
	b.bind(2, 0, 1, 0, api.OK)
	b.virq(0, 3, 2, api.OK)
	b.virq(2, 0, 1, api.OK)
	b.port(0, 0, unbound(1))
	b.port(0, 1, bound(2, 0))
	b.port(0, 2, virqPort(3))
	b.port(2, 0, bound(0, 1))
	b.port(2, 1, virqPort(0))
	return b
}

func TestNew(t *testing.T) {
	b := makeBed(t)
	if look(t, b.x) != (picture{}) {
		t.Error("new events are not free")
	}
	c := makeBed(t)
	c.alloc(0, 1, 0, api.OK)
	if look(t, b.x) != (picture{}) {
		t.Error("two events are one")
	}
}

// P7.1

func TestAlloc(t *testing.T) {
	for dom := range api.MaxDoms {
		for remote := range api.MaxDoms {
			b := makeBed(t)
			var s picture
			for n := range api.MaxPorts {
				b.alloc(dom, remote, n, api.OK)
				s.ports[dom][n] = unbound(remote)
				b.same(s)
			}
			b.alloc(dom, remote, 0, api.ErrFull)
			b.same(s)
		}
	}
}

func TestLeastFreePort(t *testing.T) {
	for _, take := range []func(b *bed, n int){
		func(b *bed, n int) { b.alloc(0, 1, n, api.OK) },
		func(b *bed, n int) { b.bind(0, 3, 0, n, api.OK) },
		func(b *bed, n int) { b.virq(0, 1, n, api.OK) },
	} {
		for _, gaps := range [][]int{{0}, {31}, {5, 9}, {0, 31}, {30, 2, 17}} {
			b := makeBed(t)
			b.alloc(3, 0, 0, api.OK)
			b.fill(0)
			for _, n := range gaps {
				b.want("Close", b.x.Close(0, n), api.OK)
			}
			take(b, slices.Min(gaps))
		}
	}
}

func TestAllocErrors(t *testing.T) {
	b := mixed(t)
	b.fill(0)
	s := look(t, b.x)
	for _, no := range noDomains {
		b.alloc(no, 1, 0, api.ErrArg)
		b.alloc(1, no, 0, api.ErrArg)
		b.alloc(no, no, 0, api.ErrArg)
		b.alloc(0, no, 0, api.ErrArg)
	}
	b.alloc(0, 1, 0, api.ErrFull)
	b.alloc(0, 0, 0, api.ErrFull)
	b.same(s)
	b.alloc(1, 0, 0, api.OK)
}

func TestBind(t *testing.T) {
	b := makeBed(t)
	b.alloc(4, 4, 0, api.OK)
	b.alloc(4, 6, 1, api.OK)
	b.alloc(6, 0, 0, api.OK)
	b.alloc(6, 0, 1, api.OK)
	b.bind(6, 4, 1, 2, api.OK)
	b.port(4, 1, bound(6, 2))
	b.port(6, 2, bound(4, 1))
	b.port(4, 0, unbound(4))
	b.port(6, 0, unbound(0))
	b.pending(4)
	b.pending(6)
	b.upcall(4, false)
	b.upcall(6, false)
}

func TestBindWithinADomain(t *testing.T) {
	b := makeBed(t)
	b.alloc(7, 7, 0, api.OK)
	b.bind(7, 7, 0, 1, api.OK)
	b.port(7, 0, bound(7, 1))
	b.port(7, 1, bound(7, 0))
	b.want("Send", b.x.Send(7, 0), api.OK)
	b.pending(7, 1)
	b.want("Send", b.x.Send(7, 1), api.OK)
	b.pending(7, 0, 1)
	b.want("Close", b.x.Close(7, 0), api.OK)
	b.port(7, 0, api.Port{})
	b.port(7, 1, pended(unbound(7)))
	b.bind(7, 7, 1, 0, api.OK)
	b.port(7, 0, bound(7, 1))
	b.port(7, 1, pended(bound(7, 0)))
}

// The last port of a domain is the unbound one itself: it is not free.
func TestBindWithinADomainThatIsFull(t *testing.T) {
	b := makeBed(t)
	for n := range api.MaxPorts {
		b.alloc(0, 0, n, api.OK)
	}
	s := look(t, b.x)
	b.bind(0, 0, api.MaxPorts-1, 0, api.ErrFull)
	b.same(s)
	b.want("Close", b.x.Close(0, 7), api.OK)
	b.bind(0, 0, api.MaxPorts-1, 7, api.OK)
}

// What a port got by an earlier peer, and its mask, are its own: Bind by a new peer takes none of it.
func TestBindKeepsTheBitOfTheUnboundPort(t *testing.T) {
	b := makeBed(t)
	b.alloc(0, 1, 0, api.OK)
	b.want("Mask", b.x.Mask(0, 0, true), api.OK)
	b.bind(1, 0, 0, 0, api.OK)
	b.port(0, 0, masked(bound(1, 0)))
	b.want("Send", b.x.Send(1, 0), api.OK)
	b.want("Close", b.x.Close(1, 0), api.OK)
	b.port(0, 0, masked(pended(unbound(1))))
	b.bind(1, 0, 0, 0, api.OK)
	b.port(0, 0, masked(pended(bound(1, 0))))
	b.port(1, 0, bound(0, 0))
	b.upcall(0, false)
}

func TestBindErrors(t *testing.T) {
	b := mixed(t)
	b.fill(4)
	b.alloc(5, 4, 0, api.OK)
	s := look(t, b.x)
	for _, no := range noDomains {
		b.bind(no, 0, 0, 0, api.ErrArg)
		b.bind(1, no, 0, 0, api.ErrArg)
		b.bind(1, no, -1, 0, api.ErrArg)
		b.bind(4, no, 0, 0, api.ErrArg)
	}
	for _, no := range noPorts {
		b.bind(1, 0, no, 0, api.ErrArg)
		b.bind(4, 5, no, 0, api.ErrArg)
	}
	b.bind(2, 0, 0, 0, api.ErrPort)              // unbound for another
	b.bind(0, 0, 0, 0, api.ErrPort)              // its own, but for another
	b.bind(2, 0, 1, 0, api.ErrPort)              // bound already, to this very domain
	b.bind(1, 0, 1, 0, api.ErrPort)              // bound to another
	b.bind(1, 0, 2, 0, api.ErrPort)              // a virtual interrupt's
	b.bind(0, 0, 2, 0, api.ErrPort)              // likewise, of the domain whose number its Remote happens to be
	b.bind(0, 2, 1, 0, api.ErrPort)              // likewise
	b.bind(0, 1, 0, 0, api.ErrPort)              // free
	b.bind(0, 1, api.MaxPorts-1, 0, api.ErrPort) // free, the last one
	b.bind(4, 0, 0, 0, api.ErrPort)              // the caller is full, but ErrPort is named first
	b.bind(4, 5, 1, 0, api.ErrPort)              // likewise
	b.bind(4, 5, 0, 0, api.ErrFull)              // full
	b.bind(4, 4, api.MaxPorts-1, 0, api.ErrFull) // full, and its own
	b.same(s)
	b.bind(1, 0, 0, 0, api.OK)
}

func TestVirq(t *testing.T) {
	b := makeBed(t)
	var s picture
	for _, dom := range []int{0, 3, api.MaxDoms - 1} {
		for n, virq := range []int{2, 0, 3, 1} {
			b.virq(dom, virq, n, api.OK)
			s.ports[dom][n] = virqPort(virq)
			b.same(s)
			b.virq(dom, virq, 0, api.ErrTwice)
			b.same(s)
		}
	}
	b.want("Close", b.x.Close(0, 1), api.OK)
	b.alloc(0, 0, 1, api.OK) // which is not virtual interrupt 0's any more
	b.virq(0, 0, 4, api.OK)
	b.virq(0, 0, 0, api.ErrTwice)
}

// A port that is not of a virtual interrupt has 0 there, which is not virtual interrupt 0.
func TestVirqOfNoughts(t *testing.T) {
	b := makeBed(t)
	b.alloc(0, 1, 0, api.OK)
	b.bind(1, 0, 0, 0, api.OK)
	b.virq(0, 0, 1, api.OK)
	b.virq(1, 0, 1, api.OK)
	b.want("Raise", b.x.Raise(2, 0), api.ErrNone)
}

func TestVirqErrors(t *testing.T) {
	b := mixed(t)
	b.fill(0)
	s := look(t, b.x)
	for _, no := range noDomains {
		b.virq(no, 0, 0, api.ErrArg)
		b.virq(no, -1, 0, api.ErrArg)
	}
	for _, no := range noVirqs {
		b.virq(1, no, 0, api.ErrArg)
		b.virq(0, no, 0, api.ErrArg)
	}
	b.virq(0, 3, 0, api.ErrTwice) // it is full too, but ErrTwice is named first
	b.virq(2, 0, 0, api.ErrTwice)
	for virq := range 3 {
		b.virq(0, virq, 0, api.ErrFull)
	}
	b.same(s)
	b.virq(1, 3, 0, api.OK)
}

// A port that is taken anew has nothing of what it was.
func TestTakenPortIsBlank(t *testing.T) {
	for _, take := range []func(b *bed) api.Port{
		func(b *bed) api.Port { b.alloc(0, 5, 0, api.OK); return unbound(5) },
		func(b *bed) api.Port { b.bind(0, 3, 0, 0, api.OK); return bound(3, 0) },
		func(b *bed) api.Port { b.virq(0, 1, 0, api.OK); return virqPort(1) },
	} {
		b := makeBed(t)
		b.alloc(3, 0, 0, api.OK)
		b.virq(0, 1, 0, api.OK)
		b.want("Raise", b.x.Raise(0, 1), api.OK)
		b.want("Mask", b.x.Mask(0, 0, true), api.OK)
		b.port(0, 0, masked(pended(virqPort(1))))
		b.want("Close", b.x.Close(0, 0), api.OK)
		b.port(0, 0, api.Port{})
		p := take(b)
		b.port(0, 0, p)
		b.pending(0)
	}
}

// P7.2

func TestClose(t *testing.T) {
	b := mixed(t)
	s := look(t, b.x)
	for _, port := range []int{0, 2} {
		b.want("Close", b.x.Close(0, port), api.OK)
		s.ports[0][port] = api.Port{}
		b.same(s)
		b.want("Close again", b.x.Close(0, port), api.ErrPort)
		b.same(s)
	}
	b.want("Close of a bound one", b.x.Close(0, 1), api.OK)
	s.ports[0][1] = api.Port{}
	s.ports[2][0] = unbound(0)
	b.same(s)
	b.want("Close of its peer", b.x.Close(2, 0), api.OK)
	s.ports[2][0] = api.Port{}
	b.same(s)
	b.virq(0, 3, 0, api.OK)
}

// The bits and masks of both ends, all of them together: those of the one that is closed go, those of its peer stay.
func TestCloseKeepsThePeersBits(t *testing.T) {
	for n := range 16 {
		b := makeBed(t)
		b.alloc(0, 1, 0, api.OK)
		b.alloc(1, 0, 0, api.OK)
		b.bind(1, 0, 0, 1, api.OK)
		want := [2]api.Port{bound(1, 1), bound(0, 0)}
		for dom := range want {
			port := dom // domain 0's is port 0, domain 1's port 1
			if n>>(2*dom)&1 != 0 {
				b.x.Mask(dom, port, true)
				want[dom] = masked(want[dom])
			}
			if n>>(2*dom)&2 != 0 {
				b.x.Send(1-dom, 1-port)
				want[dom] = pended(want[dom])
			}
			b.port(dom, port, want[dom])
		}
		up := [2]bool{b.x.Upcall(0), b.x.Upcall(1)}
		b.want("Close", b.x.Close(1, 1), api.OK)
		b.port(1, 1, api.Port{})
		want[0].Kind, want[0].Peer = api.PUnbound, 0
		b.port(0, 0, want[0])
		b.upcall(0, up[0])
		b.upcall(1, up[1])
		b.port(1, 0, unbound(0))
	}
}

func TestCloseErrors(t *testing.T) {
	b := mixed(t)
	s := look(t, b.x)
	for _, no := range noDomains {
		b.want("Close of no domain", b.x.Close(no, 0), api.ErrArg)
	}
	for _, no := range noPorts {
		b.want("Close of no port", b.x.Close(0, no), api.ErrArg)
	}
	b.want("Close of a free port", b.x.Close(0, 3), api.ErrPort)
	b.want("Close of a free port", b.x.Close(0, api.MaxPorts-1), api.ErrPort)
	b.want("Close of a free port", b.x.Close(api.MaxDoms-1, 0), api.ErrPort)
	b.same(s)
}

func TestDrop(t *testing.T) {
	b := mixed(t)
	b.alloc(3, 0, 0, api.OK)   // waits for domain 0, and goes on
	b.alloc(0, 0, 3, api.OK)   // bound within domain 0
	b.bind(0, 0, 3, 4, api.OK) // likewise
	b.alloc(5, 0, 0, api.OK)   // its port 0 will be bound to domain 0's port 5
	b.bind(0, 5, 0, 5, api.OK) // likewise
	b.want("Mask", b.x.Mask(5, 0, true), api.OK)
	b.want("Send", b.x.Send(0, 5), api.OK)
	b.want("Send", b.x.Send(0, 1), api.OK)
	b.want("Send", b.x.Send(2, 0), api.OK)
	b.want("Send", b.x.Send(0, 3), api.OK)
	b.want("Raise", b.x.Raise(0, 3), api.OK)
	b.want("Mask", b.x.Mask(0, 0, true), api.OK)
	b.pending(0, 1, 2, 4)
	b.upcall(0, true)
	s := look(t, b.x)
	b.want("Drop", b.x.Drop(0), api.OK)
	s.ports[0], s.up[0] = [api.MaxPorts]api.Port{}, false
	s.ports[2][0] = pended(unbound(0))
	s.ports[5][0] = masked(pended(unbound(0)))
	b.same(s)
	if !s.up[2] || s.up[5] || s.ports[3][0] != unbound(0) {
		t.Errorf("the others: %v", s.up)
	}
	b.want("Drop again", b.x.Drop(0), api.OK)
	b.same(s)
	b.bind(0, 2, 0, 0, api.OK)
	b.bind(0, 3, 0, 1, api.OK)
}

func TestDropOfAllPorts(t *testing.T) {
	b := makeBed(t)
	for n := range api.MaxPorts {
		b.alloc(0, 1, n, api.OK)
		b.bind(1, 0, n, n, api.OK)
		b.want("Send", b.x.Send(1, n), api.OK)
	}
	b.want("Drop", b.x.Drop(0), api.OK)
	var s picture
	for n := range api.MaxPorts {
		s.ports[1][n] = unbound(0)
	}
	b.same(s)
}

// No port is left that may set the upcall, and yet it was set.
func TestDropClearsTheUpcallOfNoPorts(t *testing.T) {
	b := makeBed(t)
	b.virq(0, 0, 0, api.OK)
	b.want("Raise", b.x.Raise(0, 0), api.OK)
	b.want("Close", b.x.Close(0, 0), api.OK)
	b.upcall(0, true)
	b.want("Drop", b.x.Drop(0), api.OK)
	b.upcall(0, false)
	b.take(0, false)
}

func TestDropErrors(t *testing.T) {
	b := mixed(t)
	s := look(t, b.x)
	for _, no := range noDomains {
		b.want("Drop of no domain", b.x.Drop(no), api.ErrArg)
	}
	b.want("Drop of a domain without ports", b.x.Drop(1), api.OK)
	b.same(s)
}
