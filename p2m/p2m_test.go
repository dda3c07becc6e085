package p2m_test

import (
	"math"
	"slices"
	"testing"

	"tenement/api"
	"tenement/p2m"
)

const size = 4

var noPlaces = []int{math.MinInt, -1, size, size + 1, api.MaxDomFrames, math.MaxInt}

var noFrames = []int{math.MinInt, -1, api.MaxFrames, api.MaxFrames + 1, math.MaxInt}

func made(t *testing.T, n int) *p2m.Map {
	t.Helper()
	p, e := p2m.New(n)
	if p == nil || e != api.OK {
		t.Fatalf("New(%d): %v, %v", n, p != nil, e)
	}
	return p
}

// mapped is a map of four places: at 0 stands frame 9, at 2 frame 0, at 3 frame 255, at 1 none.
func mapped(t *testing.T) *p2m.Map {
	t.Helper()
	p := made(t, size)
	for _, at := range pairs() {
		want(t, "Set", p.Set(at.Gpfn, at.Mfn), api.OK)
	}
	return p
}

func pairs() []api.Pair {
	return []api.Pair{{Gpfn: 0, Mfn: 9}, {Gpfn: 2, Mfn: 0}, {Gpfn: 3, Mfn: 255}}
}

func want(t *testing.T, what string, got, e api.Errno) {
	t.Helper()
	if got != e {
		t.Errorf("%s: %v, not %v", what, got, e)
	}
}

func wantGet(t *testing.T, p *p2m.Map, gpfn int, mfn int, e api.Errno) {
	t.Helper()
	if n, ge := p.Get(gpfn); n != mfn || ge != e {
		t.Errorf("Get(%d) = %d, %v, not %d, %v", gpfn, n, ge, mfn, e)
	}
}

func wantFind(t *testing.T, p *p2m.Map, mfn int, gpfn int, e api.Errno) {
	t.Helper()
	if n, ge := p.Find(mfn); n != gpfn || ge != e {
		t.Errorf("Find(%d) = %d, %v, not %d, %v", mfn, n, ge, gpfn, e)
	}
}

func wantClear(t *testing.T, p *p2m.Map, gpfn int, mfn int, e api.Errno) {
	t.Helper()
	if n, ge := p.Clear(gpfn); n != mfn || ge != e {
		t.Errorf("Clear(%d) = %d, %v, not %d, %v", gpfn, n, ge, mfn, e)
	}
}

func wantHole(t *testing.T, p *p2m.Map, gpfn int, e api.Errno) {
	t.Helper()
	if n, ge := p.Hole(); n != gpfn || ge != e {
		t.Errorf("Hole() = %d, %v, not %d, %v", n, ge, gpfn, e)
	}
}

func wantList(t *testing.T, p *p2m.Map, l ...api.Pair) {
	t.Helper()
	if got := p.List(); !slices.Equal(got, l) {
		t.Errorf("List() = %v, not %v", got, l)
	}
}

// P3.1

func TestNew(t *testing.T) {
	for _, n := range []int{math.MinInt, -1, api.MaxDomFrames + 1, api.MaxFrames, math.MaxInt} {
		if p, e := p2m.New(n); p != nil || e != api.ErrArg {
			t.Errorf("New(%d): %v, %v", n, p != nil, e)
		}
	}
	for _, n := range []int{1, 2, api.MaxDomFrames} {
		p := made(t, n)
		if p.Size() != n {
			t.Errorf("New(%d): size %d", n, p.Size())
		}
		for gpfn := range n {
			wantGet(t, p, gpfn, 0, api.ErrNone)
		}
		wantGet(t, p, n, 0, api.ErrArg)
		wantHole(t, p, 0, api.OK)
		wantList(t, p)
		wantFind(t, p, 0, 0, api.ErrNone)
	}
}

// A map of no places is one that a call made.
func TestNoPlaces(t *testing.T) {
	p := made(t, 0)
	for _, q := range []*p2m.Map{p, p.Copy()} {
		if q == nil || q.Size() != 0 {
			t.Fatalf("a map of no places: %v, size %d", q != nil, q.Size())
		}
		for _, gpfn := range []int{-1, 0, 1} {
			want(t, "Set", q.Set(gpfn, 0), api.ErrArg)
			wantClear(t, q, gpfn, 0, api.ErrArg)
			wantGet(t, q, gpfn, 0, api.ErrArg)
		}
		wantFind(t, q, 0, 0, api.ErrNone)
		wantHole(t, q, 0, api.ErrNone)
		wantList(t, q)
	}
}

func TestSet(t *testing.T) {
	p := mapped(t)
	for _, at := range pairs() {
		wantGet(t, p, at.Gpfn, at.Mfn, api.OK)
		wantFind(t, p, at.Mfn, at.Gpfn, api.OK)
	}
	wantGet(t, p, 1, 0, api.ErrNone)
	wantList(t, p, pairs()...)
	if p.Size() != size {
		t.Errorf("size %d", p.Size())
	}
}

func TestSetErrors(t *testing.T) {
	p := mapped(t)
	for _, gpfn := range noPlaces {
		want(t, "Set at no place", p.Set(gpfn, 1), api.ErrArg)
		want(t, "Set at no place of a frame that stands", p.Set(gpfn, 9), api.ErrArg)
	}
	for _, mfn := range noFrames {
		want(t, "Set of no frame", p.Set(1, mfn), api.ErrArg)
		want(t, "Set of no frame at a taken place", p.Set(0, mfn), api.ErrArg)
	}
	for _, at := range pairs() {
		want(t, "Set at a taken place", p.Set(at.Gpfn, 1), api.ErrTaken)
		want(t, "Set once more", p.Set(at.Gpfn, at.Mfn), api.ErrTaken)
		want(t, "Set at another place", p.Set(1, at.Mfn), api.ErrTwice)
		for _, other := range pairs() {
			want(t, "Set at a taken place of a frame that stands", p.Set(at.Gpfn, other.Mfn), api.ErrTaken)
		}
	}
	wantList(t, p, pairs()...)
	wantFind(t, p, 1, 0, api.ErrNone)
	want(t, "Set", p.Set(1, 1), api.OK)
	wantHole(t, p, 0, api.ErrNone)
}

func TestClear(t *testing.T) {
	p := mapped(t)
	for _, gpfn := range noPlaces {
		wantClear(t, p, gpfn, 0, api.ErrArg)
	}
	wantClear(t, p, 1, 0, api.ErrNone)
	wantList(t, p, pairs()...)
	for i, at := range pairs() {
		wantClear(t, p, at.Gpfn, at.Mfn, api.OK)
		wantGet(t, p, at.Gpfn, 0, api.ErrNone)
		wantFind(t, p, at.Mfn, 0, api.ErrNone)
		wantClear(t, p, at.Gpfn, 0, api.ErrNone)
		wantList(t, p, pairs()[i+1:]...)
	}
	if p.Size() != size {
		t.Errorf("size %d", p.Size())
	}
}

func TestSetBehindClear(t *testing.T) {
	p := mapped(t)
	wantClear(t, p, 2, 0, api.OK)
	want(t, "Set of the frame that went", p.Set(1, 0), api.OK)
	want(t, "Set at the place that it left", p.Set(2, 7), api.OK)
	wantFind(t, p, 0, 1, api.OK)
	wantFind(t, p, 7, 2, api.OK)
	wantList(t, p, api.Pair{Gpfn: 0, Mfn: 9}, api.Pair{Gpfn: 1, Mfn: 0}, api.Pair{Gpfn: 2, Mfn: 7}, api.Pair{Gpfn: 3, Mfn: 255})
}

func TestGet(t *testing.T) {
	p := mapped(t)
	for _, gpfn := range noPlaces {
		wantGet(t, p, gpfn, 0, api.ErrArg)
	}
	wantGet(t, p, 0, 9, api.OK)
	wantGet(t, p, 1, 0, api.ErrNone)
	wantGet(t, p, 2, 0, api.OK)
	wantGet(t, p, 3, 255, api.OK)
}

func TestFind(t *testing.T) {
	p := mapped(t)
	for _, mfn := range append(noFrames, 1, 2, 3, 8, 10, 254) {
		wantFind(t, p, mfn, 0, api.ErrNone)
	}
	wantFind(t, p, 9, 0, api.OK)
	wantFind(t, p, 0, 2, api.OK)
	wantFind(t, p, 255, 3, api.OK)
}

func TestHole(t *testing.T) {
	p := made(t, api.MaxDomFrames)
	for gpfn := range api.MaxDomFrames {
		wantHole(t, p, gpfn, api.OK)
		want(t, "Set", p.Set(gpfn, api.MaxFrames-1-gpfn), api.OK)
	}
	wantHole(t, p, 0, api.ErrNone)
	for _, gpfn := range []int{api.MaxDomFrames - 1, 20, 30, 0} {
		wantClear(t, p, gpfn, api.MaxFrames-1-gpfn, api.OK)
	}
	for _, gpfn := range []int{0, 20, 30, api.MaxDomFrames - 1} {
		wantHole(t, p, gpfn, api.OK)
		wantHole(t, p, gpfn, api.OK)
		want(t, "Set", p.Set(gpfn, gpfn), api.OK)
	}
	wantHole(t, p, 0, api.ErrNone)
}

// Places are told rising, in whatever order they got their frames, and whichever these are.
func TestList(t *testing.T) {
	p := made(t, api.MaxDomFrames)
	var l []api.Pair
	for gpfn := range api.MaxDomFrames {
		l = append(l, api.Pair{Gpfn: gpfn, Mfn: (gpfn*101 + 7) % api.MaxFrames})
	}
	for i := range l {
		at := l[(i*29+5)%len(l)]
		want(t, "Set", p.Set(at.Gpfn, at.Mfn), api.OK)
	}
	for range 20 {
		wantList(t, p, l...)
	}
}

func TestCopy(t *testing.T) {
	p := mapped(t)
	q := p.Copy()
	wantList(t, q, pairs()...)
	if q.Size() != size {
		t.Errorf("the copy's size %d", q.Size())
	}
	for _, at := range pairs() {
		wantFind(t, q, at.Mfn, at.Gpfn, api.OK)
	}
	want(t, "Set", p.Set(1, 1), api.OK)
	wantClear(t, p, 0, 9, api.OK)
	wantList(t, q, pairs()...)
	wantFind(t, q, 9, 0, api.OK)
	wantFind(t, q, 1, 0, api.ErrNone)
	want(t, "Set", q.Set(1, 2), api.OK)
	wantClear(t, q, 3, 255, api.OK)
	wantList(t, p, api.Pair{Gpfn: 1, Mfn: 1}, api.Pair{Gpfn: 2, Mfn: 0}, api.Pair{Gpfn: 3, Mfn: 255})
	wantFind(t, p, 255, 3, api.OK)
	wantFind(t, p, 2, 0, api.ErrNone)
}

// P3.2

func TestNoMap(t *testing.T) {
	for _, p := range []*p2m.Map{nil, {}, new(p2m.Map)} {
		for _, n := range []int{math.MinInt, -1, 0, 1, api.MaxDomFrames, api.MaxFrames, math.MaxInt} {
			want(t, "Set", p.Set(n, n), api.ErrZero)
			wantClear(t, p, n, 0, api.ErrZero)
			wantGet(t, p, n, 0, api.ErrZero)
			wantFind(t, p, n, 0, api.ErrZero)
		}
		wantHole(t, p, 0, api.ErrZero)
		if p.Size() != 0 || len(p.List()) != 0 || p.Copy() != nil {
			t.Errorf("no map: size %d, list %v, copy %v", p.Size(), p.List(), p.Copy() != nil)
		}
	}
}

// P4
func TestListIsNewMemory(t *testing.T) {
	p := mapped(t)
	l := p.List()
	l[0] = api.Pair{Gpfn: 1, Mfn: 1}
	_ = append(l[:1], api.Pair{Gpfn: 3, Mfn: 3})
	wantList(t, p, pairs()...)
	l = p.List()
	wantClear(t, p, 0, 9, api.OK)
	if !slices.Equal(l, pairs()) {
		t.Errorf("a list that was told has become %v", l)
	}
}

// The chapter's example.
func TestExample(t *testing.T) {
	p := made(t, 2)
	want(t, "Set(0, 5)", p.Set(0, 5), api.OK)
	want(t, "Set(1, 5)", p.Set(1, 5), api.ErrTwice)
	want(t, "Set(0, 6)", p.Set(0, 6), api.ErrTaken)
	wantFind(t, p, 5, 0, api.OK)
	wantHole(t, p, 1, api.OK)
	wantClear(t, p, 0, 5, api.OK)
	wantGet(t, p, 0, 0, api.ErrNone)
}
