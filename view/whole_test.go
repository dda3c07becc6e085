package view_test

import (
	"testing"

	"tenement/api"
	"tenement/phys"
)

// dice makes numbers by a fixed rule.
type dice uint32

func (d *dice) of(l ...int) int {
	*d = *d*1664525 + 1013904223
	return l[int(*d>>16)%len(l)]
}

func (d *dice) poke() api.Poke {
	b := make([]byte, d.of(0, 1, 2, 3, 3, 256))
	for i := range b {
		b[i] = byte(d.of(1, 2, 3, 4, 5))
	}
	return api.Poke{
		At:    d.of(-1, 0, 1, 1, 2, 2, 3, 4, 5, 6, 7, 8, 9, 10, 11),
		Mfn:   d.of(-1, 0, 1, 2, 3, 4, 5, 6, 0, 1, 2, 3, 4, 5, 6, size),
		Off:   d.of(-1, 0, 0, 0, 1, 2, 3, 254, 255, 256),
		Bytes: b,
	}
}

func (d *dice) pokes() []api.Poke {
	var l []api.Poke
	for range d.of(0, 1, 5, 20, 40, api.MaxPokes) {
		l = append(l, d.poke())
	}
	return l
}

// change lets the machine be another one at the next read.
func (d *dice) change(m *phys.Machine) {
	mfn := d.of(0, 1, 2, 3, 4, 5, 6)
	f, _ := m.Frame(mfn)
	switch d.of(0, 1, 2, 3, 4) {
	case 0:
		m.Get(mfn, f.Owner, d.of(api.KNone, api.KWrite, api.KL1, api.KL2))
	case 1:
		m.Put(mfn, f.Type)
	case 2:
		m.Free(mfn)
	case 3:
		m.Alloc(d.of(0, api.MaxDoms-1, api.Hyper))
	}
}

// ghost goes over the whole list at each read, and asks each of a rewrite's conditions by itself.
type ghost struct {
	m     *phys.Machine
	l     []api.Poke
	reads int
}

func (g *ghost) read(mfn int, off int, n int) ([]byte, api.Errno) {
	for _, p := range g.l {
		if p.At == g.reads {
			g.rewrite(p)
		}
	}
	g.reads++
	return g.m.Read(mfn, off, n)
}

func (g *ghost) rewrite(p api.Poke) {
	f, e := g.m.Frame(p.Mfn)
	dom := f.Owner != api.NoOwner && f.Owner != api.Hyper
	table := f.Type == api.KL1 || f.Type == api.KL2
	if e == api.OK && dom && !table && p.Off >= 0 && p.Off+len(p.Bytes) <= api.PageBytes {
		for i, b := range p.Bytes {
			g.m.Write(p.Mfn, p.Off+i, []byte{b})
		}
	}
}

func (g *ghost) rest() int {
	n := 0
	for _, p := range g.l {
		if p.At >= g.reads {
			n++
		}
	}
	return n
}

// guarded are the bytes of the frames that no guest may write: page tables, free ones, the hypervisor's.
func guarded(m *phys.Machine) string {
	var all []byte
	for mfn := range m.Size() {
		f, _ := m.Frame(mfn)
		if f.Owner < 0 || f.Type == api.KL1 || f.Type == api.KL2 {
			b, _ := m.Read(mfn, 0, api.PageBytes)
			all = append(all, b...)
		}
	}
	return string(all)
}

// P2.1, P2.2, and of P2.4 that what a guest may not write stays, for views of any rewrites on a machine that changes.
func TestAgainstAGhost(t *testing.T) {
	d := new(dice)
	for round := range 400 {
		m := machine(t)
		l := d.pokes()
		v := made(t, m, l...)
		g := &ghost{m: m.Copy(), l: l}
		for i := range 14 {
			same := *d
			d.change(m)
			same.change(g.m)
			kept := guarded(m)
			mfn, off, n := d.of(0, 0, 0, 1, 4, 5, 6, size, -1), d.of(0, 1, 254, 257), d.of(0, 1, 2, 2, -1)
			b, e := v.Read(mfn, off, n)
			gb, ge := g.read(mfn, off, n)
			if string(b) != string(gb) || e != ge {
				t.Fatalf("round %d, read %d: %x, %v, not %x, %v", round, i, b, e, gb, ge)
			}
			if guarded(m) != kept {
				t.Fatalf("round %d, read %d: a frame that no guest may write has changed", round, i)
			}
			if bytesOf(m) != bytesOf(g.m) {
				t.Fatalf("round %d, read %d: the frames are not as they must be", round, i)
			}
			wantCounts(t, v, g.reads, g.rest())
		}
	}
}

// later puts rewrites that are due at read when or later in the place of all those of a list that are.
func (d *dice) later(l []api.Poke, when int) []api.Poke {
	var others []api.Poke
	for _, p := range l {
		if p.At >= when {
			p = d.poke()
			p.At = when + d.of(0, 1, 2)
		}
		others = append(others, p)
	}
	return others
}

// P2.4: with other rewrites that are due later all reads ahead answer the same.
func TestReadsAheadAreTheSame(t *testing.T) {
	d := new(dice)
	for round := range 200 {
		l := d.pokes()
		when := d.of(1, 3, 6)
		m, n := machine(t), machine(t)
		a, b := made(t, m, l...), made(t, n, d.later(l, when)...)
		for i := range when {
			mfn := d.of(plain, table1, hyper, mapped, held, size)
			got, e := a.Read(mfn, 0, api.PageBytes)
			other, oe := b.Read(mfn, 0, api.PageBytes)
			if string(got) != string(other) || e != oe || bytesOf(m) != bytesOf(n) {
				t.Fatalf("round %d: read %d of frame %d is not the same, with other rewrites from read %d on", round, i, mfn, when)
			}
		}
	}
}
