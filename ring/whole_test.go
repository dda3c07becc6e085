package ring_test

import (
	"slices"
	"testing"

	"tenement/api"
	"tenement/phys"
	"tenement/ring"
	"tenement/view"
)

// dice makes numbers by a fixed rule.
type dice uint32

func (d *dice) of(l ...int) int {
	*d = *d*1664525 + 1013904223
	return l[int(*d>>16)%len(l)]
}

// ghost is a back end whose numbers never wrap: it counts on from where its ring began, and goes from number to number to find how far an index lies ahead.
type ghost struct {
	m                 *phys.Machine
	v                 *view.View
	taken, laid, seen int
}

// bytes is one read, of the whole page.
func (g *ghost) bytes() []byte {
	b, _ := g.v.Read(page, 0, 256)
	return b
}

func (g *ghost) look() (int, bool) {
	b := g.bytes()
	index := int(b[0]) + 256*int(b[1])
	for n := range 9 {
		if (g.taken+n)%65536 == index {
			g.seen = g.taken + n
			return n, false
		}
	}
	g.seen = g.taken + 8
	return 8, true
}

func (g *ghost) take() ([]byte, api.Errno) {
	if g.taken == g.seen || g.taken == g.laid+8 {
		return nil, api.ErrState
	}
	b := g.bytes()
	for range g.taken % 8 {
		b = b[16:]
	}
	g.taken++
	return b[16:32], api.OK
}

func (g *ghost) answer(response []byte) api.Errno {
	if len(response) != 8 {
		return api.ErrArg
	}
	if g.laid == g.taken {
		return api.ErrState
	}
	for i, b := range response {
		g.m.Write(page, 144+g.laid%8*8+i, []byte{b})
	}
	g.laid++
	g.m.Write(page, 2, []byte{byte(g.laid % 256)})
	g.m.Write(page, 3, []byte{byte(g.laid / 256 % 256)})
	return api.OK
}

// hostile is what a guest may lay into the page; most of its indices are near those that it should tell.
func (d *dice) hostile(taken int) api.Poke {
	p := api.Poke{At: d.of(0, 0, 1, 1, 2, 3), Mfn: page}
	if d.of(0, 1, 2) == 0 {
		p.Off = d.of(0, 1, 2, 16, 40, 100, 143, 144, 180, 255)
		p.Bytes = make([]byte, d.of(1, 2, 16, 60, 256))
		for i := range p.Bytes {
			p.Bytes[i] = byte(d.of(0, 1, 2, 3, 254, 255))
		}
		return p
	}
	index := taken + d.of(-1, 0, 1, 2, 3, 4, 7, 8, 9, 200, 256, 32768)
	p.Bytes = []byte{byte(index), byte(index >> 8)}
	return p
}

// game is a back end and its ghost, each on a machine of its own.
type game struct {
	t *testing.T
	d *dice
	m *phys.Machine
	b *ring.Back
	v *view.View
	g *ghost
}

// after brings a back end to where it has done n turns.
func after(t *testing.T, d *dice, n int) *game {
	t.Helper()
	m := machine(t)
	x := &game{t: t, d: d, m: m, b: makeBack(t, page)}
	turns(t, open(t, m, page), look(t, m), x.b, n)
	x.g = &ghost{m: m.Copy(), taken: n, laid: n, seen: n}
	return x
}

// views are new ones, with the same rewrites.
func (x *game) views() {
	var l []api.Poke
	for range x.d.of(0, 0, 1, 2, 5) {
		l = append(l, x.d.hostile(x.g.taken))
	}
	x.v, x.g.v = look(x.t, x.m, l...), look(x.t, x.g.m, l...)
}

func (x *game) call() {
	x.t.Helper()
	switch x.d.of(0, 1, 1, 1, 2, 2, 2, 3) {
	case 0:
		n, clamped, e := x.b.Look(x.v)
		if gn, gc := x.g.look(); n != gn || clamped != gc || e != api.OK {
			x.t.Fatalf("Look = %d, %v, %v, not %d, %v", n, clamped, e, gn, gc)
		}
	case 1:
		b, e := x.b.Take(x.v)
		if gb, ge := x.g.take(); !slices.Equal(b, gb) || e != ge {
			x.t.Fatalf("Take = %x, %v, not %x, %v", b, e, gb, ge)
		}
	case 2:
		r := response(x.d.of(1, 2, 3, 4, 5, 6, 7, 8))[:x.d.of(8, 8, 8, 8, 7)]
		e := x.b.Answer(x.v, r)
		if ge := x.g.answer(r); e != ge {
			x.t.Fatalf("Answer = %v, not %v", e, ge)
		}
	case 3:
		x.views()
	}
}

// same asks that both have come to the same.
func (x *game) same() {
	x.t.Helper()
	if n := numbers(x.b); n != [4]int{x.g.taken % 65536, x.g.laid % 65536, x.g.seen - x.g.taken, page} {
		x.t.Fatalf("Taken, Laid, Waiting, Mfn are %v, but %d, %d are taken and laid, %d seen", n, x.g.taken, x.g.laid, x.g.seen)
	}
	if x.v.Reads() != x.g.v.Reads() || x.v.Rest() != x.g.v.Rest() {
		x.t.Fatalf("%d reads, not %d", x.v.Reads(), x.g.v.Reads())
	}
	if all(x.m) != all(x.g.m) {
		x.t.Fatal("the frames are not as they must be")
	}
	// P8.5: by unsigned numbers, so that one laid more than taken is seen too.
	if on := x.b.Taken() - x.b.Laid(); on > 8 || x.b.Waiting() < 0 || x.b.Waiting() > 8 {
		x.t.Fatalf("%d are under way, %d wait", on, x.b.Waiting())
	}
}

// P8.1, P8.2, and of P8.5 what a hostile front can't do, with rewrites between all reads, from the beginning on and over the end of the numbers.
func TestHostileFront(t *testing.T) {
	d := new(dice)
	for round := range 60 {
		x := after(t, d, d.of(0, 0, 5, 255, 32760, 65520, 65535))
		x.views()
		for range 400 {
			x.call()
			x.same()
			if t.Failed() {
				t.Fatalf("round %d", round)
			}
		}
	}
}

// street is both ends of a ring that behave well, and what is on its way between them, as lists.
type street struct {
	t                *testing.T
	f                *ring.Front
	b                *ring.Back
	v                *view.View
	put, taken, laid []int // by their numbers: put and not taken, taken and not answered, answered and not got
	seen             int
	next, got        int
}

func (x *street) step(what int) {
	x.t.Helper()
	switch what {
	case 0:
		e := x.f.Put(request(x.next))
		if full := len(x.put)+len(x.taken)+len(x.laid) == 8; full != (e == api.ErrFull) || !full && e != api.OK {
			x.t.Fatalf("Put of %d: %v, full: %v", x.next, e, full)
		}
		if e == api.OK {
			x.put = append(x.put, x.next)
			x.next++
		}
	case 1:
		if n, clamped, e := x.b.Look(x.v); n != len(x.put) || clamped || e != api.OK {
			x.t.Fatalf("Look = %d, %v, %v, not %d", n, clamped, e, len(x.put))
		}
		x.seen = len(x.put)
	case 2:
		x.take()
	case 3:
		x.answer()
	case 4:
		x.get()
	}
	if x.f.Room() != 8-len(x.put)-len(x.taken)-len(x.laid) || x.b.Waiting() != x.seen {
		x.t.Fatalf("Room %d, Waiting %d, but %v, %v, %v are on their way, %d seen", x.f.Room(), x.b.Waiting(), x.put, x.taken, x.laid, x.seen)
	}
}

func (x *street) take() {
	x.t.Helper()
	b, e := x.b.Take(x.v)
	if x.seen == 0 {
		want(x.t, "Take of none", e, api.ErrState)
		return
	}
	if !slices.Equal(b, request(x.put[0])) || e != api.OK {
		x.t.Fatalf("Take of %d = %x, %v", x.put[0], b, e)
	}
	x.taken, x.put = append(x.taken, x.put[0]), x.put[1:]
	x.seen--
}

func (x *street) answer() {
	x.t.Helper()
	if len(x.taken) == 0 {
		want(x.t, "Answer of none", x.b.Answer(x.v, response(0)), api.ErrState)
		return
	}
	if e := x.b.Answer(x.v, response(x.taken[0])); e != api.OK {
		x.t.Fatalf("Answer of %d: %v", x.taken[0], e)
	}
	x.laid, x.taken = append(x.laid, x.taken[0]), x.taken[1:]
}

func (x *street) get() {
	x.t.Helper()
	b, e := x.f.Get()
	if len(x.laid) == 0 {
		none := api.ErrShort
		if len(x.put)+len(x.taken) == 0 {
			none = api.ErrState
		}
		want(x.t, "Get of none", e, none)
		return
	}
	if x.laid[0] != x.got || !slices.Equal(b, response(x.got)) || e != api.OK {
		x.t.Fatalf("Get of %d = %x, %v", x.got, b, e)
	}
	x.laid = x.laid[1:]
	x.got++
}

// The rest of P8.5: each request is taken once, in order, and each response got once, in order, over more turns than the numbers tell apart.
func TestWellBehavedEnds(t *testing.T) {
	d := new(dice)
	m := machine(t)
	x := &street{t: t, f: open(t, m, page), b: makeBack(t, page), v: look(t, m)}
	for x.got < 150000 && !t.Failed() {
		// Now one, now another of them is ahead for a while, so that the ring gets full and empty.
		what := d.of(0, 1, 2, 3, 4)
		for range d.of(1, 1, 2, 3, 8, 9) {
			x.step(what)
		}
	}
}
