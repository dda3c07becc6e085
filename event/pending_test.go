package event_test

import (
	"math"
	"testing"

	"tenement/api"
	"tenement/event"
)

// P7.3

func TestSend(t *testing.T) {
	b := mixed(t)
	s := look(t, b.x)
	b.want("Send", b.x.Send(0, 1), api.OK)
	s.ports[2][0], s.up[2] = pended(s.ports[2][0]), true
	b.same(s)
	b.want("Send back", b.x.Send(2, 0), api.OK)
	s.ports[0][1], s.up[0] = pended(s.ports[0][1]), true
	b.same(s)
	b.want("Send again", b.x.Send(0, 1), api.OK)
	b.same(s)
}

// The upcall is set by each notify, also where the bit was set.
func TestSendWhereTheBitIsSet(t *testing.T) {
	b := mixed(t)
	b.want("Send", b.x.Send(0, 1), api.OK)
	b.take(2, true)
	b.pending(2, 0)
	b.want("Send", b.x.Send(0, 1), api.OK)
	b.pending(2, 0)
	b.take(2, true)
	b.want("Raise", b.x.Raise(2, 0), api.OK)
	b.take(2, true)
	b.want("Raise", b.x.Raise(2, 0), api.OK)
	b.take(2, true)
	b.pending(2, 0, 1)
}

func TestSendErrors(t *testing.T) {
	b := mixed(t)
	s := look(t, b.x)
	for _, no := range noDomains {
		b.want("Send of no domain", b.x.Send(no, 0), api.ErrArg)
	}
	for _, no := range noPorts {
		b.want("Send of no port", b.x.Send(0, no), api.ErrArg)
	}
	b.want("Send of an unbound one", b.x.Send(0, 0), api.ErrPort)
	b.want("Send of a virtual interrupt's", b.x.Send(0, 2), api.ErrPort)
	b.want("Send of a free one", b.x.Send(0, 3), api.ErrPort)
	b.want("Send of a free one", b.x.Send(1, api.MaxPorts-1), api.ErrPort)
	b.same(s)
	b.want("Close", b.x.Close(2, 0), api.OK)
	s = look(t, b.x)
	b.want("Send of one whose peer has gone", b.x.Send(0, 1), api.ErrPort)
	b.same(s)
}

// The sender's own mask and bit ask nothing of what it sends.
func TestSendOfAMaskedPort(t *testing.T) {
	b := mixed(t)
	b.want("Mask", b.x.Mask(0, 1, true), api.OK)
	b.want("Send", b.x.Send(0, 1), api.OK)
	b.port(0, 1, masked(bound(2, 0)))
	b.port(2, 0, pended(bound(0, 1)))
	b.take(2, true)
	b.take(0, false)
}

func TestRaise(t *testing.T) {
	b := mixed(t)
	s := look(t, b.x)
	b.want("Raise", b.x.Raise(0, 3), api.OK)
	s.ports[0][2], s.up[0] = pended(s.ports[0][2]), true
	b.same(s)
	b.want("Raise", b.x.Raise(2, 0), api.OK)
	s.ports[2][1], s.up[2] = pended(s.ports[2][1]), true
	b.same(s)
}

func TestRaiseOfAMaskedPort(t *testing.T) {
	b := mixed(t)
	b.want("Mask", b.x.Mask(0, 2, true), api.OK)
	b.want("Raise", b.x.Raise(0, 3), api.OK)
	b.port(0, 2, masked(pended(virqPort(3))))
	b.upcall(0, false)
	b.want("Mask", b.x.Mask(0, 2, false), api.OK)
	b.port(0, 2, pended(virqPort(3)))
	b.upcall(0, true)
}

func TestRaiseErrors(t *testing.T) {
	b := mixed(t)
	s := look(t, b.x)
	for _, no := range noDomains {
		b.want("Raise of no domain", b.x.Raise(no, 0), api.ErrArg)
	}
	for _, no := range noVirqs {
		b.want("Raise of no virtual interrupt", b.x.Raise(0, no), api.ErrArg)
	}
	for virq := range 3 {
		b.want("Raise of one that has no port", b.x.Raise(0, virq), api.ErrNone)
	}
	b.want("Raise of one that has no port", b.x.Raise(1, 0), api.ErrNone)
	b.same(s)
	b.want("Close", b.x.Close(0, 2), api.OK)
	b.want("Raise of one whose port is closed", b.x.Raise(0, 3), api.ErrNone)
}

// Each kind of port but a free one has a mask.
func TestMask(t *testing.T) {
	b := mixed(t)
	s := look(t, b.x)
	for port := range 3 {
		for _, on := range []bool{false, true, true, false, false, true} {
			b.want("Mask", b.x.Mask(0, port, on), api.OK)
			s.ports[0][port].Masked = on
			b.same(s)
		}
	}
}

func TestMaskHoldsTheUpcall(t *testing.T) {
	b := mixed(t)
	b.want("Mask", b.x.Mask(2, 0, true), api.OK)
	b.want("Send", b.x.Send(0, 1), api.OK)
	b.pending(2, 0)
	b.upcall(2, false)
	b.want("Mask on again", b.x.Mask(2, 0, true), api.OK)
	b.upcall(2, false)
	b.want("Raise of another one", b.x.Raise(2, 0), api.OK)
	b.take(2, true)
	b.want("Mask off", b.x.Mask(2, 0, false), api.OK)
	b.pending(2, 0, 1)
	b.take(2, true)
	b.want("Mask off again", b.x.Mask(2, 0, false), api.OK)
	b.take(2, false)
}

// A mask that goes on takes no upcall back, and one that goes off sets none, if the bit is not set.
func TestMaskOfAPortThatIsNotPending(t *testing.T) {
	b := mixed(t)
	b.want("Send", b.x.Send(0, 1), api.OK)
	b.want("Mask", b.x.Mask(2, 0, true), api.OK)
	b.port(2, 0, masked(pended(bound(0, 1))))
	b.upcall(2, true)
	b.take(2, true)
	b.want("Clear", b.x.Clear(2, 0), api.OK)
	b.want("Mask", b.x.Mask(2, 0, false), api.OK)
	b.upcall(2, false)
	b.want("Raise", b.x.Raise(2, 0), api.OK) // another port's bit, not that one's
	b.take(2, true)
	b.want("Mask", b.x.Mask(2, 0, true), api.OK)
	b.want("Mask", b.x.Mask(2, 0, false), api.OK)
	b.upcall(2, false)
}

// One whose peer has gone keeps its bit, so that its mask still holds an upcall.
func TestMaskOfAnUnboundPort(t *testing.T) {
	b := mixed(t)
	b.want("Mask", b.x.Mask(2, 0, true), api.OK)
	b.want("Send", b.x.Send(0, 1), api.OK)
	b.want("Close", b.x.Close(0, 1), api.OK)
	b.port(2, 0, masked(pended(unbound(0))))
	b.upcall(2, false)
	b.want("Mask", b.x.Mask(2, 0, false), api.OK)
	b.upcall(2, true)
	b.want("Clear", b.x.Clear(2, 0), api.OK)
	b.port(2, 0, unbound(0))
}

func TestClear(t *testing.T) {
	b := mixed(t)
	b.want("Send", b.x.Send(0, 1), api.OK)
	b.want("Raise", b.x.Raise(2, 0), api.OK)
	b.want("Mask", b.x.Mask(2, 0, true), api.OK)
	s := look(t, b.x)
	for port := range 2 {
		for range 2 {
			b.want("Clear", b.x.Clear(2, port), api.OK)
			s.ports[2][port].Pending = false
			b.same(s)
		}
	}
	b.upcall(2, true)
	b.want("Clear of an unbound one", b.x.Clear(0, 0), api.OK)
	b.same(s)
}

func TestMaskAndClearErrors(t *testing.T) {
	b := mixed(t)
	s := look(t, b.x)
	for _, on := range []bool{false, true} {
		for _, no := range noDomains {
			b.want("Mask of no domain", b.x.Mask(no, 0, on), api.ErrArg)
		}
		for _, no := range noPorts {
			b.want("Mask of no port", b.x.Mask(0, no, on), api.ErrArg)
		}
		b.want("Mask of a free one", b.x.Mask(0, 3, on), api.ErrPort)
		b.want("Mask of a free one", b.x.Mask(1, api.MaxPorts-1, on), api.ErrPort)
	}
	for _, no := range noDomains {
		b.want("Clear of no domain", b.x.Clear(no, 0), api.ErrArg)
	}
	for _, no := range noPorts {
		b.want("Clear of no port", b.x.Clear(0, no), api.ErrArg)
	}
	b.want("Clear of a free one", b.x.Clear(0, 3), api.ErrPort)
	b.want("Clear of a free one", b.x.Clear(1, 0), api.ErrPort)
	b.same(s)
}

// P7.4

func TestTold(t *testing.T) {
	b := mixed(t)
	for _, no := range noDomains {
		if p, e := b.x.Port(no, 0); p != (api.Port{}) || e != api.ErrArg {
			t.Errorf("Port(%d, 0) = %+v, %v", no, p, e)
		}
		if up, e := b.x.Take(no); up || e != api.ErrArg {
			t.Errorf("Take(%d) = %v, %v", no, up, e)
		}
		b.pending(no)
		b.upcall(no, false)
	}
	for _, no := range noPorts {
		if p, e := b.x.Port(0, no); p != (api.Port{}) || e != api.ErrArg {
			t.Errorf("Port(0, %d) = %+v, %v", no, p, e)
		}
	}
	b.port(0, 3, api.Port{})
	b.port(0, api.MaxPorts-1, api.Port{})
	b.port(api.MaxDoms-1, 0, api.Port{})
}

func TestPendingOfAllPorts(t *testing.T) {
	b := makeBed(t)
	var all []int
	for n := range api.MaxPorts {
		b.alloc(0, 1, n, api.OK)
		b.bind(1, 0, n, n, api.OK)
		all = append(all, n)
	}
	for n := range api.MaxPorts {
		b.want("Send", b.x.Send(1, api.MaxPorts-1-n), api.OK)
		b.pending(0, all[api.MaxPorts-1-n:]...)
	}
	l := b.x.Pending(0)
	for i := range l {
		l[i] = -1
	}
	b.pending(0, all...)
	b.pending(1)
}

func TestTake(t *testing.T) {
	b := mixed(t)
	b.take(0, false)
	b.want("Raise", b.x.Raise(0, 3), api.OK)
	b.want("Raise", b.x.Raise(2, 0), api.OK)
	b.upcall(0, true)
	b.upcall(0, true)
	b.take(0, true)
	b.upcall(0, false)
	b.take(0, false)
	b.pending(0, 2)
	b.upcall(2, true)
}

func TestNoEvents(t *testing.T) {
	for _, x := range []*event.Events{nil, {}} {
		b := &bed{t: t, x: x}
		for _, n := range []int{0, 1, -1, api.MaxDoms, api.MaxPorts, math.MinInt, math.MaxInt} {
			b.alloc(n, 0, 0, api.ErrZero)
			b.alloc(0, n, 0, api.ErrZero)
			b.bind(n, n, n, 0, api.ErrZero)
			b.bind(0, 1, n, 0, api.ErrZero)
			b.virq(0, n, 0, api.ErrZero)
			b.virq(n, 0, 0, api.ErrZero)
			b.want("Close", x.Close(0, n), api.ErrZero)
			b.want("Close", x.Close(n, 0), api.ErrZero)
			b.want("Send", x.Send(0, n), api.ErrZero)
			b.want("Send", x.Send(n, 0), api.ErrZero)
			b.want("Raise", x.Raise(0, n), api.ErrZero)
			b.want("Raise", x.Raise(n, 0), api.ErrZero)
			b.want("Mask", x.Mask(0, n, true), api.ErrZero)
			b.want("Mask", x.Mask(n, 0, false), api.ErrZero)
			b.want("Clear", x.Clear(0, n), api.ErrZero)
			b.want("Clear", x.Clear(n, 0), api.ErrZero)
			b.want("Drop", x.Drop(n), api.ErrZero)
			if p, e := x.Port(n, 0); p != (api.Port{}) || e != api.ErrZero {
				t.Errorf("Port: %+v, %v", p, e)
			}
			if up, e := x.Take(n); up || e != api.ErrZero {
				t.Errorf("Take: %v, %v", up, e)
			}
			b.pending(n)
			b.upcall(n, false)
		}
	}
}

// The chapter's example.
func TestExample(t *testing.T) {
	b := makeBed(t)
	b.alloc(0, 1, 0, api.OK)
	b.bind(1, 0, 0, 0, api.OK)
	b.want("Send", b.x.Send(1, 0), api.OK)
	b.pending(0, 0)
	b.upcall(0, true)
	b.take(0, true)
	b.take(0, false)
	b.want("Mask", b.x.Mask(0, 0, true), api.OK)
	b.want("Clear", b.x.Clear(0, 0), api.OK)
	b.want("Send", b.x.Send(1, 0), api.OK)
	b.upcall(0, false)
	b.want("Mask", b.x.Mask(0, 0, false), api.OK)
	b.upcall(0, true)
	b.want("Close", b.x.Close(1, 0), api.OK)
	b.port(0, 0, pended(unbound(1)))
}
