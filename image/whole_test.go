package image_test

import (
	"bytes"
	"math"
	"slices"
	"testing"

	"tenement/api"
	"tenement/image"
)

// dice makes numbers by a fixed rule.
type dice uint32

func (d *dice) of(l ...int) int {
	*d = *d*1664525 + 1013904223
	return l[int(*d>>16)%len(l)]
}

// deed is a write that was done, or a trim: without bytes.
type deed struct {
	sector int
	bytes  []byte
}

// ghost is an image that is its base and a log of all that was done, which is gone over backwards for whatever is asked.
type ghost struct {
	base   []byte
	blocks int
	log    []deed
}

func (g *ghost) sectors() int { return len(g.base) / api.SectorBytes }

// own is what a sector's block holds, nil if it has none.
func (g *ghost) own(sector int) []byte {
	for _, d := range slices.Backward(g.log) {
		if d.sector == sector {
			return d.bytes
		}
	}
	return nil
}

func (g *ghost) dirty() []int {
	var l []int
	for sector := range g.sectors() {
		if g.own(sector) != nil {
			l = append(l, sector)
		}
	}
	return l
}

func (g *ghost) write(sector int, b []byte) api.Errno {
	switch {
	case sector < 0 || sector >= g.sectors() || len(b) != 64:
		return api.ErrArg
	case g.own(sector) == nil && len(g.dirty()) >= g.blocks:
		return api.ErrFull
	}
	g.log = append(g.log, deed{sector, slices.Clone(b)})
	return api.OK
}

func (g *ghost) trim(sector int) api.Errno {
	if sector < 0 || sector >= g.sectors() {
		return api.ErrArg
	}
	g.log = append(g.log, deed{sector, nil})
	return api.OK
}

func (g *ghost) need(first, n int) (int, api.Errno) {
	if first < 0 || n < 0 || first > g.sectors() {
		return 0, api.ErrArg
	}
	need := 0
	for k := range n {
		if first+k >= g.sectors() {
			return 0, api.ErrArg
		}
		if g.own(first+k) == nil {
			need++
		}
	}
	return need, api.OK
}

func (g *ghost) copy() *ghost {
	return &ghost{g.base, g.blocks, slices.Clone(g.log)}
}

// wantGhost asks an image for all that it tells, and that its blocks are as many as ever.
func wantGhost(t *testing.T, x *image.Image, g *ghost) {
	t.Helper()
	var sectors [][]byte
	for sector := range g.sectors() {
		b := g.own(sector)
		if b == nil {
			b = part(g.base, sector)
		}
		sectors = append(sectors, b)
	}
	wantDisk(t, x, g.base, sectors...)
	dirty := g.dirty()
	wantBlocks(t, x, g.blocks-len(dirty), dirty...)
	if x.Free() < 0 || x.Free()+len(x.Dirty()) != g.blocks {
		t.Errorf("%d blocks are free, %d are not, of %d", x.Free(), len(x.Dirty()), g.blocks)
	}
}

// bytes are such as may be written, and a few that may not.
func (d *dice) bytes() []byte {
	b := make([]byte, d.of(64, 64, 64, 64, 64, 64, 64, 0, 63, 65))
	for i := range b {
		b[i] = byte(d.of(0, 1, 2, 3, 255))
	}
	return b
}

// step does one call by a fixed rule to an image and its ghost, and tells the image's error.
func (d *dice) step(t *testing.T, x *image.Image, g *ghost) api.Errno {
	t.Helper()
	n := g.sectors()
	sector := d.of(0, 1, 2, 3, 4, 5, 6, 7, 0, 1, 2, n-1, n, -1, math.MaxInt)
	switch d.of(0, 0, 0, 1, 2) {
	case 0:
		b := d.bytes()
		e := x.Write(sector, b)
		want(t, "Write", e, g.write(sector, b))
		return e
	case 1:
		e := x.Trim(sector)
		want(t, "Trim", e, g.trim(sector))
		return e
	}
	first, run := d.of(0, 0, 1, 2, n-1, n, n+1, -1), d.of(0, 1, 2, 3, n-1, n, n+1, -1)
	need, e := g.need(first, run)
	wantNeed(t, x, first, run, need, e)
	return e
}

// P12.4, and with it P12.1 and P12.2 for calls in any order: what was refused has not changed the ghost, and so must not have changed the image.
func TestAgainstAGhost(t *testing.T) {
	d := new(dice)
	met := map[api.Errno]int{}
	for round := range 60 {
		n, blocks := d.of(0, 1, 2, 5, 8), d.of(0, 1, 2, 3, 5, 8, 20)
		x, g := made(t, ground(n), blocks), &ghost{base: ground(n), blocks: blocks}
		for i := range 60 {
			if d.of(0, 1, 2, 3, 4, 5, 6, 7) == 0 {
				left, kept := x, g.copy()
				x = x.Copy()
				d.step(t, x, g)
				wantGhost(t, left, kept)
			}
			met[d.step(t, x, g)]++
			wantGhost(t, x, g)
			if t.Failed() {
				t.Fatalf("round %d, step %d, of %d sectors and %d blocks", round, i, n, blocks)
			}
		}
	}
	for _, e := range []api.Errno{api.OK, api.ErrArg, api.ErrFull} {
		if met[e] == 0 {
			t.Errorf("%v was not met", e)
		}
	}
}

// P12.4: from each state of the blocks, a write or a trim changes one sector and no other one.
func TestOneSectorChanges(t *testing.T) {
	base := ground(size)
	for set := range 1 << size {
		x := made(t, base, size)
		for sector := range size {
			if set>>sector&1 == 1 {
				x.Write(sector, all(byte(sector)))
			}
		}
		for sector := range size {
			y, z := x.Copy(), x.Copy()
			want(t, "Write", y.Write(sector, all(99)), api.OK)
			want(t, "Trim", z.Trim(sector), api.OK)
			for other := range size {
				kept, _ := x.Read(other)
				if other == sector {
					wantRead(t, y, other, all(99), api.OK)
					wantRead(t, z, other, part(base, other), api.OK)
				} else {
					wantRead(t, y, other, kept, api.OK)
					wantRead(t, z, other, kept, api.OK)
				}
				wantBase(t, y, other, part(base, other), api.OK)
				wantBase(t, z, other, part(base, other), api.OK)
			}
		}
	}
}

// P1, P2: no call panics or changes anything, when the numbers that it is given can't be.
func TestNumbersAtTheirEnds(t *testing.T) {
	x := written(t)
	ends := []int{math.MinInt, math.MinInt + 1, math.MinInt32, -257, -1, 257, math.MaxInt32, math.MaxInt - 1, math.MaxInt}
	for _, a := range ends {
		image.New(nil, a)
		image.New(all(1), a)
		x.Read(a)
		x.Base(a)
		x.Write(a, nil)
		x.Write(a, all(1))
		x.Trim(a)
		for _, b := range append(ends, 0, 1, size) {
			x.Need(a, b)
			x.Need(b, a)
		}
	}
	wantWritten(t, x)
}

// P5: the same calls tell the same, whatever was done to other images, also to those on the same base.
func TestSameCallsSameAnswers(t *testing.T) {
	base := ground(8)
	a, b, other := made(t, base, 5), made(t, base, 5), made(t, base, 5)
	do := func(x *image.Image, i int) {
		x.Write(i*5%8, all(byte(i)))
		x.Trim(i * 3 % 8)
	}
	for i := range 200 {
		do(a, i)
	}
	for i := range 200 {
		do(b, i)
		do(other, 7*i+1)
	}
	if !slices.Equal(a.Dirty(), b.Dirty()) || len(a.Dirty()) == 0 {
		t.Errorf("two images with the same calls: %v, %v", a.Dirty(), b.Dirty())
	}
	for sector := range 8 {
		p, _ := a.Read(sector)
		q, _ := b.Read(sector)
		if !bytes.Equal(p, q) {
			t.Errorf("sector %d of two images with the same calls: %x, %x", sector, p, q)
		}
	}
}
