package grant_test

import (
	"math"
	"slices"
	"testing"

	"tenement/api"
	"tenement/grant"
	"tenement/p2m"
	"tenement/phys"
	"tenement/view"
)

// rewrite lays an entry over one of domain 0's, ahead of a read.
func rewrite(t *testing.T, read, ref int, g api.Grant) api.Poke {
	t.Helper()
	return api.Poke{At: read, Mfn: table0, Off: 8 * ref, Bytes: packed(t, g)}
}

// P6.7

func TestNoGrants(t *testing.T) {
	m, _ := phys.New(1)
	m.Alloc(0)
	p, _ := p2m.New(1)
	good, _ := view.New(m, nil)
	for _, x := range []*grant.Grants{nil, {}} {
		for _, n := range append(ends, -1, 0, 1, 8) {
			want(t, "Join", x.Join(n, n, p), api.ErrZero)
			want(t, "Join", x.Join(n, n, nil), api.ErrZero)
			want(t, "Leave", x.Leave(n), api.ErrZero)
			for _, v := range []*view.View{good, nil, {}} {
				wantZero(t, x, v, n)
			}
			want(t, "Unmap", x.Unmap(n, n), api.ErrZero)
			want(t, "Write", x.Write(n, n, n, []byte{1}), api.ErrZero)
			want(t, "Revoke", x.Revoke(n, n), api.ErrZero)
			if len(x.Maps(n)) != 0 || x.Foreign(n) != 0 {
				t.Error("Maps, Foreign")
			}
		}
	}
	if good.Reads() != 0 {
		t.Errorf("%d reads", good.Reads())
	}
}

// wantZero does all calls that are given a view.
func wantZero(t *testing.T, x *grant.Grants, v *view.View, n int) {
	t.Helper()
	h, e := x.Map(v, n, n, n, true)
	want(t, "Map", e, api.ErrZero)
	b, e := x.Read(v, n, n, n, n)
	want(t, "Read", e, api.ErrZero)
	if h != 0 || b != nil {
		t.Errorf("Map = %d, Read = %x", h, b)
	}
	for _, is := range []bool{false, true} {
		a := api.End{Grant: is, Dom: n, Ref: n, Gpfn: n, Off: n}
		b, e := x.Pull(v, n, a, n)
		want(t, "Pull", e, api.ErrZero)
		if b != nil {
			t.Errorf("Pull = %x", b)
		}
		want(t, "Push", x.Push(v, n, a, []byte{1}), api.ErrZero)
		want(t, "Copy", x.Copy(v, n, a, a, n), api.ErrZero)
	}
	want(t, "Transfer", x.Transfer(v, n, n, 1, n), api.ErrZero)
}

// A view that is none is told ahead of all else, and where nothing else is wrong.
func TestNoView(t *testing.T) {
	b := makeBed(t)
	b.lay(0, 0, permitted(1, 1))
	b.lay(0, 1, taken(1, 4))
	b.mapped(1, 0, 0, true, 0, api.OK)
	b.refused(func() {
		for _, v := range []*view.View{nil, {}} {
			for _, n := range append(ends, -1, 0, 1, 8) {
				wantZero(t, b.x, v, n)
			}
			b.v = v
			b.mapped(1, 0, 0, true, 0, api.ErrZero)
			b.read(1, 0, 0, 1, nil, api.ErrZero)
			b.pulled(1, at(0, 0), 1, nil, api.ErrZero)
			b.pulled(1, place(1, 0), 1, nil, api.ErrZero)
			b.pushed(1, at(0, 0), []byte{1}, api.ErrZero)
			b.pushed(1, place(1, 0), []byte{1}, api.ErrZero)
			b.want("Copy", b.x.Copy(v, 1, place(1, 0), place(2, 0), 1), api.ErrZero)
			b.want("Transfer", b.x.Transfer(v, 1, 1, 0, 1), api.ErrZero)
		}
	})
}

// P6.8

// What stands in an entry at its read counts, whatever stood there ahead of it.
func TestARewriteAtTheRead(t *testing.T) {
	b := makeBed(t)
	b.fill(a1)
	b.fill(a2)
	b.fill(b1)
	l := filled(a2)
	for _, do := range []func(){
		func() { b.mapped(1, 0, 0, true, 0, api.OK); b.wantFrame(a2, api.KWrite, 1, 1) },
		func() { b.pulled(1, at(0, 0), 256, l, api.OK) },
		func() { l[9] = 200; b.pushed(1, at(0, 9), l[9:10], api.OK); b.wantBytes(a2, 0, l...) },
		func() { b.want("Copy", b.x.Copy(b.v, 1, at(0, 7), place(1, 0), 9), api.OK) },
	} {
		b.lay(0, 0, readOnly(permitted(2, 1)))
		b.view(rewrite(t, 0, 0, permitted(1, 2)))
		do()
	}
	b.wantBytes(b1, 0, l[7:16]...)
	b.wantBytes(a1, 0, filled(a1)...)
	for _, wrong := range []api.Grant{permitted(2, 1), taken(1, 1), {Len: 1}} {
		b.lay(0, 0, permitted(1, 1))
		b.view(rewrite(t, 0, 0, wrong))
		b.mapped(1, 0, 0, true, 0, api.ErrGrant)
	}
}

// What is written over an entry behind its read, and be it ahead of the very next one, counts for nothing.
func TestARewriteBehindTheRead(t *testing.T) {
	b := makeBed(t)
	b.fill(a1)
	b.fill(a2)
	for _, over := range []api.Grant{{Len: 1}, permitted(2, 2), permitted(1, 2), readOnly(permitted(1, 1)), partly(permitted(1, 1), 200, 1), taken(1, 4)} {
		l := filled(a1)
		again := func(n int) {
			b.lay(0, 0, partly(permitted(1, 1), 16, 8))
			b.view(rewrite(t, n, 0, over))
		}
		again(1)
		b.pulled(1, at(0, 2), 6, l[18:24], api.OK)
		if b.v.Rest() != 0 {
			t.Error("the rewrite was not done")
		}
		again(1)
		b.pushed(1, at(0, 0), l[16:24], api.OK)
		again(1)
		b.want("Copy", b.x.Copy(b.v, 1, at(0, 0), place(1, 8), 8), api.OK)
		b.wantBytes(b1, 8, l[16:24]...)
		again(1)
		b.want("Copy", b.x.Copy(b.v, 1, place(2, 0), at(0, 0), 8), oneReadLater(over))
		b.m.Write(a1, 0, l)
		b.m.Write(a2, 0, filled(a2))
	}
}

// oneReadLater is what a copy to domain 0's entry answers that is read when this one stands there.
func oneReadLater(g api.Grant) api.Errno {
	switch {
	case g.Kind != 1 || g.Dom != 1:
		return api.ErrGrant
	case g.RO:
		return api.ErrMode
	case g.Len < 8:
		return api.ErrRange
	}
	return api.OK
}

// A rewrite of the page itself is seen by the read of its bytes, and not by the one ahead.
func TestARewriteOfThePage(t *testing.T) {
	b := makeBed(t)
	b.lay(0, 0, permitted(1, 1))
	l := []api.Poke{{At: 1, Mfn: a1, Off: 3, Bytes: []byte{5}}, {At: 2, Mfn: a1, Off: 3, Bytes: []byte{6}}}
	b.view(l...)
	b.pulled(1, at(0, 0), 5, []byte{0, 0, 0, 5, 0}, api.OK)
	b.mapped(1, 0, 0, false, 0, api.OK)
	b.read(1, 0, 3, 1, []byte{6}, api.OK)
	b.want("Copy", b.x.Copy(b.v, 1, at(0, 3), place(1, 0), 1), api.OK)
	b.wantBytes(b1, 0, 6)
	b.view(api.Poke{At: 0, Mfn: b1, Off: 0, Bytes: []byte{7}})
	b.want("Copy", b.x.Copy(b.v, 1, place(1, 0), place(2, 0), 1), api.OK)
	b.wantBytes(b2, 0, 7)
}

// A frame that is handed over keeps what its last rewrite laid there, and the entry's own rewrite counts.
func TestARewriteAtATransfer(t *testing.T) {
	b := makeBed(t)
	b.lay(0, 0, taken(1, 4))
	b.view(rewrite(t, 0, 0, taken(1, 5)), api.Poke{Mfn: b1, Bytes: []byte{8}}, rewrite(t, 1, 0, api.Grant{Len: 1}))
	b.want("Transfer", b.x.Transfer(b.v, 1, 1, 0, 0), api.OK)
	if mfn, e := b.p[0].Get(5); mfn != b1 || e != api.OK {
		t.Errorf("the place: %d, %v", mfn, e)
	}
	b.wantBytes(b1, 0, 8)
	b.lay(0, 0, taken(1, 4))
	b.view(rewrite(t, 0, 0, taken(2, 4)))
	b.want("Transfer", b.x.Transfer(b.v, 1, 2, 0, 0), api.ErrGrant)
}

// A view of another machine shows what that one has; whatever it is, the calls end, and the grants' own machine decides what may be.
func TestAViewOfAnotherMachine(t *testing.T) {
	b := makeBed(t)
	b.lay(1, 0, permitted(2, 1))
	small, _ := phys.New(1)
	b.v, _ = view.New(small, nil)
	b.refused(func() {
		if h, e := b.x.Map(b.v, 2, 1, 0, true); h != 0 || e == api.OK {
			t.Errorf("Map = %d, %v", h, e)
		}
		if l, e := b.x.Pull(b.v, 1, place(1, 0), 1); l != nil || e == api.OK {
			t.Errorf("Pull = %x, %v", l, e)
		}
		if e := b.x.Transfer(b.v, 0, 1, 1, 0); e == api.OK {
			t.Errorf("Transfer: %v", e)
		}
	})
}

// P1, P2: no call panics or changes anything, when the numbers that it is given can't be.
func TestNumbersAtTheirEnds(t *testing.T) {
	b := makeBed(t)
	b.lay(0, 0, permitted(1, 1))
	b.lay(0, 1, partly(permitted(1, 1), 1, 255))
	b.lay(0, 2, taken(1, 4))
	b.mapped(1, 0, 0, true, 0, api.OK)
	p, _ := p2m.New(1)
	b.refused(func() {
		for _, n := range ends {
			for _, k := range append(slices.Clone(ends), -1, 0, 1) {
				for _, is := range []bool{false, true} {
					b.x.Map(b.v, n, k, 0, is)
					b.x.Map(b.v, 1, n, k, is)
					b.x.Map(b.v, 1, 0, n, is)
					for _, a := range []api.End{{Grant: is, Off: n, Gpfn: 1}, {Grant: is, Dom: n, Ref: k, Gpfn: n}, {Grant: is, Ref: n, Gpfn: n}, {Grant: is, Ref: 1, Off: n, Gpfn: 1}} {
						b.x.Pull(b.v, 1, a, k)
						b.x.Pull(b.v, n, a, k)
						b.x.Push(b.v, 1, a, []byte{1})
						b.x.Copy(b.v, 1, a, a, k)
						b.x.Copy(b.v, 1, place(1, 0), a, 1)
					}
				}
				b.x.Join(n, k, p)
				b.x.Join(3, n, p)
				b.x.Leave(n)
				b.x.Unmap(n, k)
				b.x.Unmap(1, n)
				b.x.Read(b.v, n, k, 0, 1)
				b.x.Read(b.v, 1, 0, n, k)
				b.x.Read(b.v, 1, 0, k, n)
				b.x.Write(1, 0, n, []byte{1})
				b.x.Write(n, k, 0, []byte{1})
				b.x.Transfer(b.v, n, 1, k, 2)
				b.x.Transfer(b.v, 1, n, 0, 2)
				b.x.Transfer(b.v, 1, 1, n, 2)
				b.x.Transfer(b.v, 1, 1, 0, n)
				b.x.Revoke(n, k)
				b.x.Revoke(0, n)
				b.x.Maps(n)
				b.x.Foreign(n)
			}
		}
	})
	if l, e := b.x.Pull(b.v, 1, place(1, 0), math.MaxInt); l != nil || e != api.ErrRange {
		t.Errorf("Pull = %x, %v", l, e)
	}
}

// The chapter's example.
func TestExample(t *testing.T) {
	b := makeBed(t)
	b.lay(0, 3, permitted(1, 0))
	b.mapped(1, 0, 3, true, 0, api.OK)
	b.want("Write(1, 0, 0, [7])", b.x.Write(1, 0, 0, []byte{7}), api.OK)
	b.wantBytes(table0, 0, 7)
	b.layBytes(0, 3, make([]byte, 8)...)
	b.read(1, 0, 0, 1, []byte{7}, api.OK)
	b.mapped(1, 0, 3, true, 0, api.ErrGrant)
	b.want("Revoke(0, 3)", b.x.Revoke(0, 3), api.ErrBusy)
	b.want("Unmap(1, 0)", b.x.Unmap(1, 0), api.OK)
	b.want("Revoke(0, 3)", b.x.Revoke(0, 3), api.OK)
	b.lay(0, 4, partly(permitted(1, 1), 16, 8))
	b.mapped(1, 0, 4, false, 0, api.ErrSub)
	b.pulled(1, at(4, 0), 9, nil, api.ErrRange)
	b.pulled(1, at(4, 0), 8, make([]byte, 8), api.OK)
}
