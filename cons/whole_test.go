package cons_test

import (
	"bytes"
	"slices"
	"testing"

	"tenement/api"
	"tenement/cons"
	"tenement/phys"
	"tenement/view"
)

// ghost is a daemon that forgets nothing: its numbers never wrap, and it goes over all that it has taken for whatever is asked.
type ghost struct {
	m     *phys.Machine
	v     *view.View
	taken []byte
	put   int
}

// page is one read, of the whole of it.
func (g *ghost) page() []byte {
	b, _ := g.v.Read(page, 0, 256)
	return b
}

func (g *ghost) tell(off, n int) {
	g.m.Write(page, off, []byte{byte(n % 256)})
	g.m.Write(page, off+1, []byte{byte(n / 256 % 256)})
}

// ahead goes from number to number, to find how far an index lies ahead.
func (g *ghost) ahead(index int) (int, bool) {
	for n := range 129 {
		if (len(g.taken)+n)%65536 == index {
			return n, false
		}
	}
	return 128, true
}

func (g *ghost) drain() (int, bool) {
	b := g.page()
	n, clamped := g.ahead(int(b[0]) + 256*int(b[1]))
	b = g.page()
	for i := range n {
		at := len(g.taken) % 128
		if at == 0 && i > 0 {
			b = g.page()
		}
		g.taken = append(g.taken, b[16+at])
	}
	g.tell(2, len(g.taken))
	return n, clamped
}

// room goes from number to number, to find how many bytes wait for the guest.
func (g *ghost) room(index int) int {
	for n := range 65 {
		if (g.put+65536-n)%65536 == index {
			return 64 - n
		}
	}
	return 0
}

func (g *ghost) feed(l []byte) int {
	b := g.page()
	n := min(g.room(int(b[4])+256*int(b[5])), len(l))
	for i := range n {
		g.m.Write(page, 160+g.put%64, l[i:i+1])
		g.put++
	}
	g.tell(6, g.put)
	return n
}

// lines are what all that was taken makes, and behind them the rest.
func (g *ghost) lines() []string {
	var l []string
	rest := g.taken
	for {
		cut := bytes.IndexByte(rest, 10)
		switch {
		case cut >= 0 && cut < 128:
			l = append(l, shown(rest[:cut]))
			rest = rest[cut+1:]
		case len(rest) >= 128:
			l = append(l, shown(rest[:128]))
			rest = rest[128:]
		default:
			return append(l, shown(rest))
		}
	}
}

// game is a console and its ghost, each on a machine of its own.
type game struct {
	t *testing.T
	d *dice
	m *phys.Machine
	c *cons.Console
	v *view.View
	g *ghost
}

// after brings a console to where n bytes went each way.
func after(t *testing.T, d *dice, n int) *game {
	t.Helper()
	x := at(t, n)
	for put := 0; put < n; put += 64 {
		step := min(64, n-put)
		x.tell(4, put)
		x.feed(step, make([]byte, step)...)
	}
	x.tell(4, n)
	return &game{t: t, d: d, m: x.m, c: x.c, g: &ghost{m: x.m.Copy(), taken: make([]byte, n), put: n}}
}

func (d *dice) bytes(n int) []byte {
	b := make([]byte, n)
	// Now and then there is no line's end for long.
	ends := d.of(0, 1, 1)
	for i := range b {
		b[i] = byte(d.of('a', 'b', '\\', 0xc3, 0xa9, 0xe2, 0x82, 0xac, 0xff, 0xc2, 0x85, 0, 127, ' '))
		if ends == 1 && d.of(0, 1, 2, 3, 4, 5, 6, 7) == 0 {
			b[i] = 10
		}
	}
	return b
}

// hostile is what a guest may lay into the page; most of its numbers are near those that it should tell.
func (d *dice) hostile(g *ghost) api.Poke {
	p := api.Poke{At: d.of(0, 0, 1, 1, 2, 2, 3, 4), Mfn: page}
	switch d.of(0, 0, 0, 1, 1, 2) {
	case 0:
		p.Bytes = word(len(g.taken) + d.of(-1, 0, 1, 2, 3, 10, 60, 100, 127, 128, 129, 200, 256, 32768))
	case 1:
		p.Off = 4
		p.Bytes = word(g.put - d.of(-1, 0, 1, 2, 3, 10, 40, 60, 63, 64, 65, 200, 256, 32768))
	case 2:
		p.Off = d.of(0, 1, 2, 3, 4, 6, 7, 16, 17, 100, 143, 160, 161, 200, 223, 255)
		p.Bytes = d.bytes(d.of(1, 2, 10, 60, 128, 256))
	}
	return p
}

// views are new ones, with the same rewrites, and what the guest puts out is other bytes now and then.
func (x *game) views() {
	var l []api.Poke
	for range x.d.of(0, 1, 2, 5, 9) {
		l = append(l, x.d.hostile(x.g))
	}
	if x.d.of(0, 1) == 0 {
		l = append(l, api.Poke{Mfn: page, Off: 16, Bytes: x.d.bytes(128)})
	}
	x.v, x.g.v = look(x.t, x.m, l...), look(x.t, x.g.m, l...)
}

func (x *game) call() {
	x.t.Helper()
	switch x.d.of(0, 0, 1, 2) {
	case 0:
		n, clamped, e := x.c.Drain(x.v)
		if gn, gc := x.g.drain(); n != gn || clamped != gc || e != api.OK {
			x.t.Fatalf("Drain = %d, %v, %v, not %d, %v", n, clamped, e, gn, gc)
		}
		if n < 0 || n > 128 {
			x.t.Fatalf("Drain takes %d", n)
		}
	case 1:
		b := x.d.bytes(x.d.of(0, 1, 2, 5, 30, 63, 64, 65, 100))
		n, e := x.c.Feed(x.v, b)
		if gn := x.g.feed(b); n != gn || e != api.OK {
			x.t.Fatalf("Feed of %d bytes = %d, %v, not %d", len(b), n, e, gn)
		}
	case 2:
		x.views()
	}
}

// same asks that both have come to the same, as far as it needs no look at all that was taken.
func (x *game) same() {
	x.t.Helper()
	if x.v.Reads() != x.g.v.Reads() || x.v.Rest() != x.g.v.Rest() {
		x.t.Fatalf("%d reads, not %d", x.v.Reads(), x.g.v.Reads())
	}
	if all(x.m) != all(x.g.m) {
		x.t.Fatal("the frames are not as they must be")
	}
}

// whole asks that both have the same lines, and for P16.4.
func (x *game) whole() {
	x.t.Helper()
	if l := x.g.lines(); !slices.Equal(append(x.c.Lines(), x.c.Rest()), l) {
		x.t.Fatalf("Lines are %q, Rest is %q, not %q", x.c.Lines(), x.c.Rest(), l)
	}
	if is := raw(x.c); is != string(x.g.taken) {
		x.t.Fatalf("the lines and the rest are not what was taken: %q", is)
	}
	for _, s := range x.c.Lines() {
		if n := len(unshow(s)); n > api.MaxLine {
			x.t.Fatalf("a line of %d bytes", n)
		}
	}
	if n := len(unshow(x.c.Rest())); n >= api.MaxLine {
		x.t.Fatalf("a rest of %d bytes", n)
	}
}

// P16.2 to P16.4 under a hostile guest, with rewrites between all reads, from the beginning on and over the end of the numbers.
func TestHostileGuest(t *testing.T) {
	d := new(dice)
	for round := range 60 {
		start := d.of(0, 0, 0, 5, 127, 1000, 65400)
		x := after(t, d, start)
		x.views()
		for n := range 150 {
			x.call()
			x.same()
			if start < 1000 || n%25 == 24 {
				x.whole()
			}
			if t.Failed() {
				t.Fatalf("round %d", round)
			}
		}
	}
}

// A guest that behaves well gets each byte over, once and in order, both ways, over more turns than the numbers tell apart.
func TestWellBehavedGuest(t *testing.T) {
	d := new(dice)
	x := makeBed(t)
	out, in, taken, fed := 0, 0, 0, 0
	for out < 150000 || in < 150000 {
		if room := 128 - (out - taken); room > 0 {
			n := min(room, d.of(0, 1, 7, 50, 128))
			x.put(out, count(out, n)...)
			out += n
		}
		if d.of(0, 1, 2) > 0 {
			x.view()
			x.drain(out-taken, false)
			taken = out
		}
		room := 64 - (fed - in)
		n := d.of(0, 1, 5, 40, 64)
		x.view()
		x.feed(min(n, room), count(fed, n)...)
		fed += min(n, room)
		for range min(fed-in, d.of(0, 1, 30, 64)) {
			x.bytes(160+in%64, count(in, 1)...)
			in++
		}
		x.tell(4, in)
		if t.Failed() {
			t.Fatalf("%d are out, %d in", out, in)
		}
	}
	if is := raw(x.c); is != string(count(0, taken)) {
		t.Error("what was taken is not what was put out")
	}
}
