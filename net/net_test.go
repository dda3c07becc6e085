package net_test

import (
	"math"
	"testing"

	"tenement/api"
	"tenement/bridge"
	"tenement/grant"
	"tenement/net"
	"tenement/phys"
	"tenement/view"
)

// P15.1: New

func TestNew(t *testing.T) {
	m, _ := phys.New(1)
	g := grant.New(m)
	for ports := 1; ports <= 8; ports++ {
		s, _ := bridge.New(ports)
		for port := range ports {
			for doms := range 64 {
				for _, c := range [][2]int{{0, 0}, {0, 1}, {1, 0}, {100, 101}, {255, 254}, {254, 255}, {255, 255}} {
					d, e := net.New(g, doms/8, doms%8, c[0], c[1], s, port)
					out, in := d.Rings()
					if d == nil || e != api.OK || out.Mfn() != c[0] || in.Mfn() != c[1] || d.Port() != port {
						t.Errorf("New(%d, %d, %v, %d): %v", doms/8, doms%8, c, port, e)
					}
					if out == in || out.Taken()+out.Laid()+in.Taken()+in.Laid() != 0 || out.Waiting()+in.Waiting() != 0 {
						t.Errorf("New(%d, %d, %v, %d): its rings have been used", doms/8, doms%8, c, port)
					}
				}
			}
			if c, _ := s.Counts(port); c != (api.Counts{}) {
				t.Errorf("New has done something to port %d: %+v", port, c)
			}
		}
	}
	if f, _ := m.Frame(0); f != (api.Frame{Owner: api.NoOwner}) || len(g.Maps(0)) != 0 {
		t.Errorf("New has taken something: %v", f)
	}
}

func TestNoNew(t *testing.T) {
	m, _ := phys.New(1)
	g := grant.New(m)
	s, _ := bridge.New(3)
	no := func(g *grant.Grants, back, front, out, in int, s *bridge.Bridge, port int, e api.Errno) {
		t.Helper()
		if d, ge := net.New(g, back, front, out, in, s, port); d != nil || ge != e {
			t.Errorf("New(%d, %d, %d, %d, %d): %v, %v, not %v", back, front, out, in, port, d != nil, ge, e)
		}
	}
	ends := []int{math.MinInt, api.Hyper, api.NoOwner, 256, 257, math.MaxInt}
	for _, n := range append(ends, 8, 9, 255) {
		no(g, n, 1, 0, 1, s, 0, api.ErrArg)
		no(g, 0, n, 0, 1, s, 0, api.ErrArg)
		no(g, n, n, n, n, s, n, api.ErrArg)
	}
	for _, n := range ends {
		no(g, 0, 1, n, 1, s, 0, api.ErrArg)
		no(g, 0, 1, 0, n, s, 0, api.ErrArg)
		no(g, 0, 1, n, n, s, 0, api.ErrArg)
	}
	for _, n := range append(ends, 3, 4, 7, 8) {
		no(g, 0, 1, 0, 1, s, n, api.ErrArg)
	}
	// ErrZero is named first.
	for _, n := range append(ends, 0, 1, 8) {
		for _, none := range []*grant.Grants{nil, {}} {
			no(none, n, n, n, n, s, n, api.ErrZero)
			no(none, 0, 1, 2, 3, s, 0, api.ErrZero)
			no(none, 0, 1, 2, 3, nil, n, api.ErrZero)
		}
		for _, none := range []*bridge.Bridge{nil, {}} {
			no(g, n, n, n, n, none, n, api.ErrZero)
			no(g, 0, 1, 2, 3, none, 0, api.ErrZero)
		}
	}
}

// Each port of each switch, and none behind the last one.
func TestPortsOfSwitches(t *testing.T) {
	m, _ := phys.New(1)
	for ports := 1; ports <= 8; ports++ {
		s, _ := bridge.New(ports)
		for port := -2; port < 11; port++ {
			d, e := net.New(grant.New(m), 0, 1, 0, 0, s, port)
			if is := port >= 0 && port < ports; (e == api.OK) != is || (d != nil) != is || e != api.OK && e != api.ErrArg {
				t.Errorf("port %d of %d: %v", port, ports, e)
			}
		}
	}
}

// P15.3: Rings, Port

// What was told is what the backend works on.
func TestRings(t *testing.T) {
	x := makeBed(t)
	out, in := x.d.Rings()
	again, other := x.d.Rings()
	if out != again || in != other || out.Mfn() != outs || in.Mfn() != ins || x.d.Port() != port {
		t.Error("Rings, Port")
	}
	x.sent(x.packet(b1, 0, 60, 1), api.SOK, 2)
	if out.Taken() != 1 || out.Laid() != 1 || in.Taken() != 0 || in.Laid() != 0 {
		t.Errorf("taken %d, %d, laid %d, %d", out.Taken(), in.Taken(), out.Laid(), in.Laid())
	}
	x.comes(frameOf(9, 1))
	x.comes(frameOf(9, 2))
	x.delivered(x.buffer(b1, 1), api.SOK, 9, 1)
	x.delivered(x.buffer(b1, 2), api.SOK, 9, 1)
	if out.Taken() != 1 || out.Laid() != 1 || in.Taken() != 2 || in.Laid() != 2 {
		t.Errorf("taken %d, %d, laid %d, %d", out.Taken(), in.Taken(), out.Laid(), in.Laid())
	}
}

// P15.4

func TestNoBackend(t *testing.T) {
	x := makeBed(t)
	x.putOut(x.packet(b1, 0, 60, 1))
	x.putIn(x.buffer(b1, 1))
	x.comes(frameOf(9, 1))
	for _, d := range []*net.Back{nil, {}, new(net.Back)} {
		for _, v := range []*view.View{x.v, nil, {}} {
			for _, most := range []int{math.MinInt, -1, 0, 1, 8, math.MaxInt} {
				wantZero(t, d, v, most)
			}
		}
		if out, in := d.Rings(); out != nil || in != nil || d.Port() != -1 {
			t.Errorf("Rings: %v, %v, Port: %d", out != nil, in != nil, d.Port())
		}
	}
	if x.v.Reads() != 0 {
		t.Error("no backend has read")
	}
}

func wantZero(t *testing.T, d *net.Back, v *view.View, most int) {
	t.Helper()
	if n, e := d.Send(v, most); n != 0 || e != api.ErrZero {
		t.Errorf("Send(%d) = %d, %v", most, n, e)
	}
	if n, e := d.Deliver(v, most); n != 0 || e != api.ErrZero {
		t.Errorf("Deliver(%d) = %d, %v", most, n, e)
	}
}

func TestNoView(t *testing.T) {
	x := makeBed(t)
	x.putOut(x.packet(b1, 0, 60, 1))
	x.putIn(x.buffer(b1, 1))
	x.comes(frameOf(9, 1))
	was := x.picture()
	for _, v := range []*view.View{nil, {}, new(view.View)} {
		for _, most := range []int{math.MinInt, -1, 0, 1, 8, math.MaxInt} {
			wantZero(t, x.d, v, most)
		}
	}
	x.same(was)
	out, in := x.d.Rings()
	if out.Waiting() != 0 || in.Waiting() != 0 {
		t.Error("without a view something was seen")
	}
	x.unanswered(x.out)
	x.unanswered(x.in)
	x.send(1, 1)
	x.deliver(1, 1)
}

// The chapter's examples

func TestExamples(t *testing.T) {
	x := makeBed(t)
	wantPacket(t, 3, 16, 60, 7, raw(3, 0x10, 0x3c, 0, 7), api.OK)
	x.grant(3, api.Grant{Kind: 1, Dom: 2, Gpfn: b1})
	x.sent(x.packet(3, 16, 60, 7), api.SBad, 1)
	x.counts(port, api.Counts{Taken: 1, Malformed: 1})
	want(t, "Rate", x.s.Rate(port, 0, 0), api.OK)
	x.sent(x.packet(b1, 16, 60, 7), api.SFull, 2)
	x.counts(port, api.Counts{Taken: 2, Malformed: 1, NoCredit: 1})
	x.comes(frameOf(9, 1))
	x.delivered(x.buffer(readOnly, 7), api.SBad, 0, 1)
	x.counts(port, api.Counts{Taken: 2, Malformed: 1, NoCredit: 1, Directed: 1, NoBuffer: 1})
}
