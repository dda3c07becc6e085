package p2m_test

import (
	"math"
	"slices"
	"testing"

	"tenement/api"
	"tenement/p2m"
)

// dice makes numbers by a fixed rule.
type dice uint32

func (d *dice) of(l ...int) int {
	*d = *d*1664525 + 1013904223
	return l[int(*d>>16)%len(l)]
}

// ghost is a map that is one list of frames by places, -1 where none stands, and is gone over for whatever is asked.
type ghost []int

func newGhost(n int) ghost {
	g := make(ghost, n)
	for i := range g {
		g[i] = -1
	}
	return g
}

func (g ghost) set(gpfn int, mfn int) api.Errno {
	switch {
	case gpfn < 0 || gpfn >= len(g) || mfn < 0 || mfn > 255:
		return api.ErrArg
	case g[gpfn] >= 0:
		return api.ErrTaken
	case slices.Contains(g, mfn):
		return api.ErrTwice
	}
	g[gpfn] = mfn
	return api.OK
}

func (g ghost) get(gpfn int) (int, api.Errno) {
	switch {
	case gpfn < 0 || gpfn >= len(g):
		return 0, api.ErrArg
	case g[gpfn] < 0:
		return 0, api.ErrNone
	}
	return g[gpfn], api.OK
}

func (g ghost) clear(gpfn int) (int, api.Errno) {
	mfn, e := g.get(gpfn)
	if e == api.OK {
		g[gpfn] = -1
	}
	return mfn, e
}

func (g ghost) find(mfn int) (int, api.Errno) {
	for gpfn, n := range g {
		if n == mfn && mfn >= 0 {
			return gpfn, api.OK
		}
	}
	return 0, api.ErrNone
}

func (g ghost) hole() (int, api.Errno) {
	if gpfn := slices.Index(g, -1); gpfn >= 0 {
		return gpfn, api.OK
	}
	return 0, api.ErrNone
}

func (g ghost) list() []api.Pair {
	var l []api.Pair
	for gpfn, mfn := range g {
		if mfn >= 0 {
			l = append(l, api.Pair{Gpfn: gpfn, Mfn: mfn})
		}
	}
	return l
}

// wantGhost asks a map for all that it tells.
func wantGhost(t *testing.T, p *p2m.Map, g ghost) {
	t.Helper()
	if p.Size() != len(g) {
		t.Fatalf("size %d, not %d", p.Size(), len(g))
	}
	wantList(t, p, g.list()...)
	gpfn, e := g.hole()
	wantHole(t, p, gpfn, e)
	for gpfn := -1; gpfn <= len(g); gpfn++ {
		mfn, e := g.get(gpfn)
		wantGet(t, p, gpfn, mfn, e)
	}
	for mfn := -1; mfn <= api.MaxFrames; mfn++ {
		gpfn, e := g.find(mfn)
		wantFind(t, p, mfn, gpfn, e)
	}
}

// wantBothWays asks that Get and Find undo one another, and that no frame stands at two places.
func wantBothWays(t *testing.T, p *p2m.Map) {
	t.Helper()
	var l []int
	for gpfn := range p.Size() {
		if mfn, e := p.Get(gpfn); e == api.OK {
			wantFind(t, p, mfn, gpfn, api.OK)
			l = append(l, mfn)
		}
	}
	for mfn := range api.MaxFrames {
		if gpfn, e := p.Find(mfn); e == api.OK {
			wantGet(t, p, gpfn, mfn, api.OK)
		}
	}
	slices.Sort(l)
	if len(slices.Compact(l)) != len(p.List()) {
		t.Errorf("a frame stands at two places: %v", p.List())
	}
}

// step does one call by a fixed rule to a map and its ghost, and tells the map's error.
func (d *dice) step(t *testing.T, p *p2m.Map, g ghost) api.Errno {
	t.Helper()
	gpfn, mfn := d.of(0, 1, 2, 3, 4, 5, 6, 7, -1, len(g)-1, len(g)), d.of(0, 1, 2, 3, 4, 5, 254, 255, -1, 256)
	if d.of(0, 0, 0, 1, 1) == 0 {
		e := p.Set(gpfn, mfn)
		want(t, "Set", e, g.set(gpfn, mfn))
		return e
	}
	n, e := p.Clear(gpfn)
	gn, ge := g.clear(gpfn)
	if n != gn || e != ge {
		t.Errorf("Clear(%d) = %d, %v, not %d, %v", gpfn, n, e, gn, ge)
	}
	return e
}

// P3.3, and with it P3.1 for calls in any order: what was refused has not changed the ghost, and so must not have changed the map.
func TestAgainstAGhost(t *testing.T) {
	d := new(dice)
	met := map[api.Errno]int{}
	for round := range 60 {
		n := d.of(0, 1, 3, 8, api.MaxDomFrames)
		p, g := made(t, n), newGhost(n)
		for i := range 60 {
			if d.of(0, 1, 2, 3, 4, 5, 6, 7) == 0 {
				left, kept := p, slices.Clone(g)
				p = p.Copy()
				d.step(t, p, g)
				wantGhost(t, left, kept)
			}
			met[d.step(t, p, g)]++
			wantGhost(t, p, g)
			wantBothWays(t, p)
			if t.Failed() {
				t.Fatalf("round %d, step %d, of %d places", round, i, n)
			}
		}
	}
	for _, e := range []api.Errno{api.OK, api.ErrArg, api.ErrNone, api.ErrTwice, api.ErrTaken} {
		if met[e] == 0 {
			t.Errorf("%v was not met", e)
		}
	}
}

// P1, P2: no call panics or changes anything, when the numbers that it is given can't be.
func TestNumbersAtTheirEnds(t *testing.T) {
	p := mapped(t)
	ends := []int{math.MinInt, math.MinInt + 1, math.MinInt32, -257, -1, 257, math.MaxInt32, math.MaxInt - 1, math.MaxInt}
	for _, a := range ends {
		p2m.New(a)
		p.Clear(a)
		p.Get(a)
		p.Find(a)
		for _, b := range append(ends, 1) {
			p.Set(a, b)
			p.Set(b, a)
		}
	}
	wantList(t, p, pairs()...)
	wantBothWays(t, p)
}

// P5: the same calls tell the same, whatever was done to other maps.
func TestSameCallsSameAnswers(t *testing.T) {
	a, b, other := made(t, 8), made(t, 8), made(t, 8)
	for i := range 200 {
		a.Set(i*5%8, i*11%13)
		a.Clear(i * 3 % 8)
	}
	for i := range 200 {
		b.Set(i*5%8, i*11%13)
		other.Set(i*7%8, i*11%13)
		b.Clear(i * 3 % 8)
		other.Clear(i % 8)
	}
	if !slices.Equal(a.List(), b.List()) || len(a.List()) == 0 {
		t.Errorf("two maps with the same calls: %v, %v", a.List(), b.List())
	}
}
