package bus_test

import (
	"strconv"
	"testing"

	"tenement/api"
	"tenement/bus"
	"tenement/path"
	"tenement/store"
)

// dice makes numbers by a fixed rule.
type dice uint32

func (d *dice) below(n int) int {
	*d = *d*1664525 + 1013904223
	return int(*d>>12) % n
}

func (d *dice) of(l ...string) string { return l[d.below(len(l))] }

// ghost is a device that knows nothing but its paths: it does by hand, in a store of its own, what the document says.
type ghost struct {
	s           *store.Store
	front, back int
	f, b        string
}

// read is the state that a domain reads.
func (g *ghost) read(dom int, name string) int {
	value, e := g.s.Read(dom, 0, name)
	for n := 1; n <= 6; n++ {
		if e == api.OK && string(value) == strconv.Itoa(n) {
			return n
		}
	}
	return 0
}

func (g *ghost) see(dom int) (int, int, api.Errno) {
	switch dom {
	case g.front:
		return g.read(dom, g.f), g.read(dom, g.b), api.OK
	case g.back:
		return g.read(dom, g.b), g.read(dom, g.f), api.OK
	}
	return 0, 0, api.ErrArg
}

func (g *ghost) turn(dom, to int) api.Errno {
	own, other, e := g.see(dom)
	if e != api.OK {
		return e
	}
	if !mayGo(own, to, other) {
		return api.ErrState
	}
	name := g.f
	if dom == g.back {
		name = g.b
	}
	return g.s.Write(dom, 0, name, []byte(strconv.Itoa(to)))
}

func (g *ghost) step() (int, api.Errno) {
	if _, e := g.s.Read(0, 0, g.b); e == api.ErrNone {
		return 0, e
	}
	own, other, _ := g.see(g.back)
	g.turn(g.back, goesTo(own, other))
	return g.read(g.back, g.b), api.OK
}

func (g *ghost) remove() api.Errno {
	first := g.s.Remove(0, 0, g.f)
	second := g.s.Remove(0, 0, g.b)
	if first != api.OK {
		return first
	}
	return second
}

func (g *ghost) lay() api.Errno {
	for _, name := range []string{g.f, g.b} {
		if _, e := g.s.Read(0, 0, name); e == api.OK {
			return api.ErrTwice
		}
	}
	var first api.Errno
	do := func(e api.Errno) {
		if first == api.OK {
			first = e
		}
	}
	do(g.s.Write(0, 0, g.f, []byte("1")))
	do(g.s.Write(0, 0, g.b, []byte("1")))
	do(g.s.SetPerms(0, 0, g.f, []api.Perm{{Dom: g.front}, {Dom: g.back, Read: true}}))
	do(g.s.SetPerms(0, 0, g.b, []api.Perm{{Dom: g.back}, {Dom: g.front, Read: true}}))
	return first
}

// both is a device, and a ghost that has to be as it is.
type both struct {
	*bed
	g *ghost
}

func makeBoth(t *testing.T, front, back, n int) *both {
	t.Helper()
	b := makeBed(t, front, back, n)
	g := &ghost{s: store.New(), front: front, back: back, f: b.d.Front(), b: b.d.Back()}
	g.lay()
	return &both{b, g}
}

// anybody does something to both stores, as a guest, or domain 0, may.
func (b *both) anybody(d *dice) {
	dom := []int{0, b.g.front, b.g.front, b.g.back, d.below(8)}[d.below(5)]
	name := d.of(b.g.f, b.g.f, b.g.b, above(b.g.f), above(b.g.b))
	value := []byte(d.of("1", "2", "3", "4", "5", "6", "", "0", "7", "44", "x"))
	perms, _, _ := path.Perms(d.of("n", "r", "w", "b") + strconv.Itoa(d.below(8)) + d.of("", ",r1", ",w2", ",b0", ",n3"))
	what := d.below(16)
	for _, s := range []*store.Store{b.s, b.g.s} {
		switch {
		case what < 10:
			s.Write(dom, 0, name, value)
		case what < 12:
			s.SetPerms(dom, 0, name, perms)
		case what < 13:
			s.Remove(dom, 0, name)
		case what < 14:
			s.Watch(dom, name, "t")
		default:
			// What was put out of order is well again now and then.
			s.SetPerms(0, 0, b.g.f, []api.Perm{{Dom: b.g.front}, {Dom: b.g.back, Read: true}})
			s.SetPerms(0, 0, b.g.b, []api.Perm{{Dom: b.g.back}, {Dom: b.g.front, Read: true}})
		}
	}
}

// above is the path right above a node's state.
func above(name string) string { return name[:len(name)-len("/state")] }

// call makes one call of the device and of the ghost.
func (b *both) call(d *dice) {
	b.t.Helper()
	dom := []int{b.g.front, b.g.back, d.below(10) - 1}[d.below(3)]
	to := d.below(9) - 1
	switch d.below(12) {
	case 0:
		_, is := bus.New(b.s, b.g.front, b.g.back, b.n())
		if want := b.g.lay(); is != want {
			b.t.Fatalf("New: %v, not %v", is, want)
		}
	case 1:
		if d.below(4) != 0 {
			return // Seldom, so that there is a device for the other calls.
		}
		if is, want := b.d.Remove(), b.g.remove(); is != want {
			b.t.Fatalf("Remove: %v, not %v", is, want)
		}
	case 2, 3:
		own, other, e := b.d.See(dom)
		if n, far, want := b.g.see(dom); own != n || other != far || e != want {
			b.t.Fatalf("See(%d) = %d, %d, %v, not %d, %d, %v", dom, own, other, e, n, far, want)
		}
	case 4, 5, 6, 7:
		if is, want := b.d.Switch(dom, to), b.g.turn(dom, to); is != want {
			b.t.Fatalf("Switch(%d, %d): %v, not %v", dom, to, is, want)
		}
	default:
		is, e := b.d.Step()
		if n, want := b.g.step(); is != n || e != want {
			b.t.Fatalf("Step() = %d, %v, not %d, %v", is, e, n, want)
		}
	}
}

// n is the device's number, as its paths tell it.
func (b *both) n() int {
	names, _, _ := path.Parse(b.g.f)
	n, _ := strconv.Atoi(names[3])
	return n
}

// P11.2, P11.3: calls in any order, with anybody's changes between them.
func TestDeviceAgainstAGhost(t *testing.T) {
	for seed := range 300 {
		d := dice(seed)
		front := d.below(8)
		back := (front + 1 + d.below(7)) % 8
		if d.below(2) == 0 {
			front, back = 1+d.below(7), 0
		}
		b := makeBoth(t, front, back, d.below(100))
		for range 200 {
			b.call(&d)
			b.anybody(&d)
		}
		if is, want := picture(b.s), picture(b.g.s); is != want {
			t.Fatalf("seed %d: the store is\n%s\nnot\n%s", seed, is, want)
		}
		for dom := range api.MaxDoms {
			wantList(t, "events", told(b.s, dom), told(b.g.s, dom)...)
		}
	}
}

// P11.5: whatever the front end writes, the back end goes only where Allowed says yes.
func TestHostileFront(t *testing.T) {
	for _, back := range []int{0, 5} {
		for seed := range 200 {
			d := dice(seed)
			b := makeBed(t, 3, back, 1)
			b.s.SetPerms(0, 0, "/dom/3/dev/1", []api.Perm{{Dom: 3}})
			for range 100 {
				hostile(b.s, b.d.Front(), back, &d)
				own, other, _ := b.d.See(back)
				is, e := b.d.Step()
				if e != api.OK {
					t.Fatalf("Step: %v", e)
				}
				if is != own && !bus.Allowed(own, is, other) {
					t.Fatalf("Step went from %d to %d with %d", own, is, other)
				}
				wantValue(t, b.s, b.d.Back(), string(rune('0'+is)))
			}
		}
	}
}

// hostile is what a front end may do to what is its own, and may try to do to what is not.
func hostile(s *store.Store, front string, back int, d *dice) {
	node := "/dom/" + strconv.Itoa(back) + "/back/3/1/state"
	switch d.below(8) {
	case 0:
		s.Remove(3, 0, front)
	case 1:
		s.SetPerms(3, 0, front, []api.Perm{{Dom: 3}, {Dom: back, Read: d.below(2) == 0}})
	case 2:
		if s.Write(3, 0, node, []byte("4")) == api.OK || s.Remove(3, 0, node) == api.OK || s.SetPerms(3, 0, node, []api.Perm{{Dom: 3}}) == api.OK {
			panic("the front end has changed the back end's node")
		}
	case 3:
		tx, _ := s.Begin(3)
		s.Write(3, tx, front, []byte(d.of("1", "6")))
		s.End(3, tx, d.below(2) == 0)
	default:
		s.Write(3, 0, front, []byte(d.of("1", "2", "3", "4", "5", "6", "", "0", "7", "\xff", "garbage")))
	}
}

// behaves is a front end that behaves well: it opens, if wants, and else leaves.
func behaves(b *bed, wants bool) {
	b.t.Helper()
	own, other, e := b.d.See(3)
	if e != api.OK {
		b.t.Fatalf("See: %v", e)
	}
	to := own
	switch {
	case own == api.BClosing && (other == api.BClosing || other == api.BClosed):
		to = api.BClosed
	case own == api.BClosing || own == api.BClosed:
	case !wants || other == api.BClosing:
		to = api.BClosing
	case own == api.BInit && other == api.BWait:
		to = api.BReady
	case own == api.BReady && other == api.BOpen:
		to = api.BOpen
	}
	if to != own {
		b.turn(3, to, api.OK)
	}
}

// turns lets the ends take turns: whose each is tells a bit of a number.
func turns(b *bed, n, count int, wants bool) {
	b.t.Helper()
	for k := range count {
		if n>>k&1 == 0 {
			behaves(b, wants)
			continue
		}
		if _, e := b.d.Step(); e != api.OK {
			b.t.Fatalf("Step: %v", e)
		}
	}
}

// P11.5: two ends that behave well come to open, and from there to closed, in whatever order they take their turns.
func TestTwoWellBehavedEnds(t *testing.T) {
	const count = 6
	for n := range 1 << count {
		b := makeBed(t, 3, 5, 1)
		turns(b, n, count, true)
		// However few of those turns were one end's: a few more of both are enough.
		turns(b, 0b101010, 6, true)
		b.see(3, api.BOpen, api.BOpen)
		b.see(5, api.BOpen, api.BOpen)
		turns(b, n, count, true)
		b.see(3, api.BOpen, api.BOpen)
		turns(b, n, count, false)
		turns(b, 0b101010, 6, false)
		b.see(3, api.BClosed, api.BClosed)
		b.see(5, api.BClosed, api.BClosed)
		turns(b, n, count, false)
		b.see(3, api.BClosed, api.BClosed)
		// And may begin again.
		b.turn(3, api.BInit, api.OK)
		b.step(api.BInit)
		turns(b, 0b101010, 6, true)
		b.see(3, api.BOpen, api.BOpen)
	}
}

// P5: what a device answers hangs on its own nodes alone, however many there are beside it.
func TestManyDevices(t *testing.T) {
	s := store.New()
	var beds []*bed
	for n := range 20 {
		d, e := bus.New(s, 1+n%3, 0, n*5)
		if e != api.OK {
			t.Fatalf("New: %v", e)
		}
		beds = append(beds, &bed{t, s, d})
	}
	for n, b := range beds {
		b.step(api.BWait)
		for _, later := range beds[n+1:] {
			later.values("1", "1")
		}
	}
	for n, b := range beds {
		b.turn(1+n%3, api.BReady, api.OK)
		b.turn(1+(n+1)%3, api.BReady, api.ErrArg)
		b.step(api.BOpen)
	}
	for _, b := range beds {
		b.values("3", "4")
	}
}
