package dom_test

import (
	"bytes"
	"fmt"
	"math"
	"slices"
	"testing"

	"tenement/api"
	"tenement/dom"
	"tenement/grant"
	"tenement/view"
)

var noDomains = []int{math.MinInt, api.Hyper, api.NoOwner, api.MaxDoms, math.MaxInt}

// bed is a hypervisor whose domains are built of the frames from 2 on, one behind the other.
type bed struct {
	t *testing.T
	h *dom.Hyper
}

// makeBed makes a hypervisor with domains of those sizes.
func makeBed(t *testing.T, frames int, sizes ...int) *bed {
	t.Helper()
	h, e := dom.New(frames)
	if e != api.OK || h == nil {
		t.Fatalf("New(%d): %v", frames, e)
	}
	b := &bed{t: t, h: h}
	for n, size := range sizes {
		b.built(size, n, api.OK)
	}
	return b
}

// four is a bed of three domains of four frames each, with six frames free. The numbers of the frames stand in first, root and leaf.
func four(t *testing.T) *bed {
	t.Helper()
	return makeBed(t, 26, 4, 4, 4)
}

// first, root and leaf are frames of a domain of four's: that at place 0, its tables.
func first(n int) int { return 2 + 6*n }
func root(n int) int  { return 6 + 6*n }
func leaf(n int) int  { return 7 + 6*n }

func (b *bed) want(what string, got, e api.Errno) {
	b.t.Helper()
	if got != e {
		b.t.Errorf("%s: %v, not %v", what, got, e)
	}
}

func (b *bed) built(size, n int, e api.Errno) {
	b.t.Helper()
	if got, ge := b.h.Build(size); got != n || ge != e {
		b.t.Fatalf("Build(%d) = %d, %v, not %d, %v", size, got, ge, n, e)
	}
}

func (b *bed) destroy(n int) {
	b.t.Helper()
	b.want(fmt.Sprintf("Destroy(%d)", n), b.h.Destroy(n), api.OK)
}

func (b *bed) dom(n int, d api.Dom, e api.Errno) {
	b.t.Helper()
	if got, ge := b.h.Dom(n); got != d || ge != e {
		b.t.Errorf("Dom(%d) = %+v, %v, not %+v, %v", n, got, ge, d, e)
	}
}

func (b *bed) left(n int) {
	b.t.Helper()
	if got := b.h.Machine().Left(); got != n {
		b.t.Errorf("%d frames are free, not %d", got, n)
	}
}

func (b *bed) owned(owner int, l ...int) {
	b.t.Helper()
	if got := b.h.Machine().Owned(owner); !slices.Equal(got, l) {
		b.t.Errorf("%d owns %v, not %v", owner, got, l)
	}
}

func (b *bed) frame(mfn, owner, kind, count, total int) {
	b.t.Helper()
	f, e := b.h.Machine().Frame(mfn)
	if want := (api.Frame{Owner: owner, Type: kind, Count: count, Total: total}); f != want || e != api.OK {
		b.t.Errorf("Frame(%d) = %+v, %v, not %+v", mfn, f, e, want)
	}
}

// freed asks that a frame is free and scrubbed.
func (b *bed) freed(l ...int) {
	b.t.Helper()
	for _, mfn := range l {
		b.frame(mfn, api.NoOwner, api.KNone, 0, 0)
		b.bytes(mfn, make([]byte, api.PageBytes))
	}
}

func (b *bed) bytes(mfn int, l []byte) {
	b.t.Helper()
	if got, e := b.h.Machine().Read(mfn, 0, len(l)); !bytes.Equal(got, l) || e != api.OK {
		b.t.Errorf("frame %d has %x, %v, not %x", mfn, got, e, l)
	}
}

// places asks for the frames at a domain's places, pair by pair.
func (b *bed) places(n int, l ...api.Pair) {
	b.t.Helper()
	if got := b.h.Map(n).List(); !slices.Equal(got, l) {
		b.t.Errorf("Map(%d) has %v, not %v", n, got, l)
	}
}

// lay writes an entry into a grant frame of four's.
func (b *bed) lay(owner, ref int, g api.Grant) {
	b.t.Helper()
	l, e := grant.Pack(g)
	b.want("Pack", e, api.OK)
	b.want("Write", b.h.Machine().Write(first(owner), 8*ref, l), api.OK)
}

func (b *bed) view(l ...api.Poke) *view.View {
	b.t.Helper()
	v, e := view.New(b.h.Machine(), l)
	b.want("view.New", e, api.OK)
	return v
}

// mapped lets a caller map an owner's place, by the entry of that place's number, and tells the handle.
func (b *bed) mapped(caller, owner, gpfn int, write bool) int {
	b.t.Helper()
	b.lay(owner, gpfn, api.Grant{Kind: 1, Dom: caller, Gpfn: gpfn, Len: 256})
	n, e := b.h.Grant(b.view(), caller, owner, gpfn, write)
	b.want("Grant", e, api.OK)
	return n
}

// look tells all that can be seen of a hypervisor without changing it.
func look(h *dom.Hyper) string {
	var s bytes.Buffer
	m := h.Machine()
	for mfn := range m.Size() {
		f, _ := m.Frame(mfn)
		l, _ := m.Read(mfn, 0, api.PageBytes)
		fmt.Fprintf(&s, "%d: %+v %x\n", mfn, f, l)
	}
	for n := range api.MaxDoms {
		d, e := h.Dom(n)
		fmt.Fprintln(&s, n, d, e, h.Live(n), h.Map(n).List(), h.Mmu().Pins(n), h.Mmu().Root(n))
		fmt.Fprintln(&s, h.Grants().Maps(n), h.Grants().Foreign(n), h.Events().Upcall(n))
		for port := range api.MaxPorts {
			p, _ := h.Events().Port(n, port)
			fmt.Fprint(&s, p)
		}
	}
	return s.String()
}

// same asks that what f does changes nothing.
func (b *bed) same(f func()) {
	b.t.Helper()
	was := look(b.h)
	f()
	if is := look(b.h); is != was {
		b.t.Errorf("it has changed from\n%s\nto\n%s", was, is)
	}
}

// pairs are frames at the places from 0 on.
func pairs(l ...int) []api.Pair {
	var p []api.Pair
	for gpfn, mfn := range l {
		p = append(p, api.Pair{Gpfn: gpfn, Mfn: mfn})
	}
	return p
}
