package blk_test

import (
	"bytes"
	"testing"

	"tenement/api"
	"tenement/blk"
)

// A front's rewrites ahead of each single read of a request's doing. Read 0 is that of the ring's index, read 1 that of the slot.

// rewrite lays bytes ahead of a read.
func rewrite(at, mfn, off int, b ...byte) api.Poke {
	return api.Poke{At: at, Mfn: mfn, Off: off, Bytes: b}
}

// entry lays an entry ahead of a read.
func (x *bed) entry(at, ref int, g api.Grant) api.Poke {
	return rewrite(at, table, 8*ref, packed(x.t, g)...)
}

// over lays bytes over all of a page.
func over(at, mfn int) api.Poke {
	return rewrite(at, mfn, 0, bytes.Repeat([]byte{0xee}, 256)...)
}

// once puts a request, and asks for its status under rewrites, how often the view is read in all, and how many rewrites are not done.
func (x *bed) once(r api.Request, page, status, reads, rest int, l ...api.Poke) {
	x.t.Helper()
	x.put(r, page)
	x.view(l...)
	x.step(1, 1)
	op := r.Op
	if page != -1 {
		op = api.DIndirect
	}
	x.told(api.Reply{ID: r.ID, Op: op, Status: status})
	if x.v.Reads() != reads || x.v.Rest() != rest {
		x.t.Errorf("%d reads, not %d; %d rewrites are left, not %d", x.v.Reads(), reads, x.v.Rest(), rest)
	}
}

// The slot's bytes are those at its one read: also those that the response is made of.
func TestRewriteOfTheSlot(t *testing.T) {
	x := makeBed(t, 4)
	head, _, _ := blk.Pack(request(api.DWrite, 0x708, 6, seg(b2, 1, 1)), -1)
	x.put(request(api.DRead, 1, 2, seg(b1, 0, 0)), -1)
	x.view(over(2, slots), rewrite(1, slots, 16, head...), rewrite(2, slots, 16, raw(2, 0, 5)...), rewrite(3, slots, 16, raw(9)...))
	x.step(1, 1)
	x.told(api.Reply{ID: 0x708, Op: api.DWrite})
	x.disk(5, based(5, 1), part(b2, 1, 1), based(7, 1))
	x.page(b1, filled(b1))
	if b, _ := x.m.Read(slots, 144, 8); !bytes.Equal(b, []byte{8, 7, 1, 0, 0, 0, 0, 0}) {
		t.Errorf("the response is %x", b)
	}
	if b, _ := x.m.Read(slots, 2, 2); !bytes.Equal(b, []byte{1, 0}) {
		t.Errorf("the number is %x", b)
	}
}

func TestRewriteOfTheIndex(t *testing.T) {
	x := makeBed(t, 4)
	x.put(request(api.DBarrier, 1, 0), -1)
	x.view(rewrite(0, slots, 0, 0), rewrite(1, slots, 0, 3, 0))
	x.step(8, 0)
	x.step(8, 3)
	x.told(api.Reply{Status: api.SBad})
}

// Read 2 is that of the page's entry, read 3 that of the segments, all of them at one time.
func TestRewriteOfAPageOfSegments(t *testing.T) {
	x := makeBed(t, sectors)
	l := []api.Segment{seg(b1, 0, 0), seg(b1, 1, 1)}
	// What is laid ahead of read 2 counts: the entry, and the segments too.
	x.once(request(api.DWrite, 1, 0, l...), list, api.SBad, 3, 0, rewrite(2, table, 8*list, 0))
	x.grant(list, api.Grant{Kind: 1, Gpfn: list})
	x.once(request(api.DWrite, 2, 0, l...), list, api.SOK, 8, 0, rewrite(2, list, 0, b2, 5))
	x.disk(0, part(b2, 1, 1), part(b1, 1, 1), based(2, 1))
	x.once(request(api.DWrite, 3, 4, l...), list, api.SOK, 8, 0, x.entry(2, list, api.Grant{Kind: 1, Gpfn: b3}), rewrite(2, b3, 0, b2, 10, b2, 0))
	x.disk(4, part(b2, 2, 2), part(b2, 0, 0), based(6, 1))
	x.grant(list, api.Grant{Kind: 1, Gpfn: list})
	// What is laid ahead of read 3 counts in the page, no more in its entry.
	x.once(request(api.DWrite, 4, 8, l...), list, api.SOK, 8, 0, rewrite(3, table, 8*list, 0), rewrite(3, list, 0, b2, 15, b2, 5))
	x.disk(8, part(b2, 3, 3), part(b2, 1, 1), based(10, 1))
	x.grant(list, api.Grant{Kind: 1, Gpfn: list})
	x.once(request(api.DWrite, 5, 12, l...), list, api.SBad, 4, 0, rewrite(3, list, 3, 0x10))
	x.disk(12, based(12, 8))
	// And ahead of read 4 nothing of both does.
	x.once(request(api.DWrite, 6, 12, l...), list, api.SOK, 8, 0, rewrite(4, table, 8*list, 0), over(4, list))
	x.disk(12, part(b1, 0, 1), based(14, 6))
}

// Each entry is looked at once, and all of them ahead of the first page.
func TestRewriteOfEntries(t *testing.T) {
	for _, ref := range []int{b1, b2} {
		at := ref - b1 + 2
		for read := range 7 {
			x := makeBed(t, sectors)
			r := request(api.DWrite, 1, 4, seg(b1, 0, 0), seg(b2, 1, 1))
			if read <= at {
				x.once(r, -1, api.SBad, at+1, 0, rewrite(read, table, 8*ref, 0))
				x.disk(4, based(4, 3))
				continue
			}
			rest := max(read-5, 0) // there is no read 6
			x.once(r, -1, api.SOK, 6, rest, rewrite(read, table, 8*ref, 0))
			x.disk(4, part(b1, 0, 0), part(b2, 1, 1), based(6, 1))
		}
	}
}

// An entry that names another frame when it is read gives that one; behind its read the frame is as it was.
func TestRewriteToAnotherFrame(t *testing.T) {
	for read := range 7 {
		x := makeBed(t, sectors)
		r := request(api.DWrite, 1, 4, seg(b1, 0, 0), seg(b2, 1, 1))
		x.once(r, -1, api.SOK, 6, max(read-5, 0), x.entry(read, b2, api.Grant{Kind: 1, Gpfn: b3}))
		second := b2
		if read <= 3 {
			second = b3
		}
		x.disk(4, part(b1, 0, 0), part(second, 1, 1), based(6, 1))
	}
	for read := range 4 {
		x := makeBed(t, sectors)
		r := request(api.DRead, 1, 4, seg(b1, 0, 0), seg(b2, 1, 1))
		x.once(r, -1, api.SOK, 4, 0, x.entry(read, b1, api.Grant{Kind: 1, Gpfn: b3}))
		first, other := b1, b3
		if read <= 2 {
			first, other = b3, b1
		}
		x.page(first, based(4, 1), part(first, 1, 3))
		x.page(other, filled(other))
		x.page(b2, part(b2, 0, 0), based(5, 1), part(b2, 2, 3))
	}
}

// A frame that is no more for writing when its entry is read is not written, nor is the one ahead of it.
func TestRewriteToReadOnly(t *testing.T) {
	for read := range 5 {
		x := makeBed(t, sectors)
		r := request(api.DRead, 1, 4, seg(b1, 0, 0), seg(b2, 1, 1))
		p := x.entry(read, b2, api.Grant{Kind: 1, RO: true, Gpfn: b2})
		if read > 3 { // There is no such read.
			x.once(r, -1, api.SOK, 4, 1, p)
			x.page(b1, based(4, 1), part(b1, 1, 3))
			continue
		}
		x.once(r, -1, api.SBad, 4, 0, p)
		x.page(b1, filled(b1))
		x.page(b2, filled(b2))
	}
}

// Each buffer's bytes are those at its one read, segment by segment, also where two segments are of one page.
func TestRewriteOfBuffers(t *testing.T) {
	for read := range 9 {
		x := makeBed(t, sectors)
		r := request(api.DWrite, 1, 4, seg(b1, 0, 1), seg(b2, 1, 1), seg(b1, 1, 2))
		x.once(r, -1, api.SOK, 8, max(read-7, 0), over(read, b1))
		now := bytes.Repeat([]byte{0xee}, 128)
		first, third := now, now
		if read > 5 {
			first = part(b1, 0, 1)
		}
		if read > 7 {
			third = part(b1, 1, 2)
		}
		x.disk(4, first, part(b2, 1, 1), third, based(9, 1))
	}
}

// A write that finds no room has read its buffers all the same.
func TestRewritesOfAWriteToAFullDisk(t *testing.T) {
	x := makeBed(t, 1)
	x.once(request(api.DWrite, 1, 4, seg(b1, 0, 1)), -1, api.SFull, 4, 1, over(3, b1), over(4, b2))
	x.page(b1, bytes.Repeat([]byte{0xee}, 256))
	x.page(b2, filled(b2))
	x.disk(4, based(4, 2))
}

// What is read from the disk is laid behind all reads, so that no rewrite of the same Step comes behind it but those of the next request.
func TestRewritesOfARead(t *testing.T) {
	x := makeBed(t, 1)
	x.put(request(api.DRead, 1, 4, seg(b1, 0, 3)), -1)
	x.put(request(api.DRead, 2, 8, seg(b2, 0, 3)), -1)
	x.view(over(2, b1), over(3, b2), over(4, b2), rewrite(4, b1, 64, 1, 2, 3))
	x.step(8, 2)
	wanted := based(4, 4)
	copy(wanted[64:], []byte{1, 2, 3})
	x.page(b1, wanted)
	x.page(b2, based(8, 4))
}

// A request that is refused makes no read that it need not.
func TestRewritesThatAreNotDue(t *testing.T) {
	for _, c := range []struct {
		r     api.Request
		page  int
		reads int
	}{
		{request(api.DWrite, 1, sectors, seg(b1, 0, 0)), -1, 2},
		{request(api.DBarrier, 1, sectors+1), -1, 2},
		{request(api.DWrite, 1, sectors, seg(b1, 0, 0)), list, 4},
		{request(api.DWrite, 1, 0, seg(b1, 0, 0)), others, 3},
		{request(api.DWrite, 1, 0, seg(b1, 0, 0)), 40, 2},
		{request(api.DWrite, 1, 0, seg(b1, 0, 0), seg(none, 0, 0), seg(b2, 0, 0)), -1, 4},
	} {
		x := makeBed(t, sectors)
		head, paged, _ := blk.Pack(c.r, c.page)
		x.lay(list, 0, paged...)
		x.putRaw(head)
		was := x.picture()
		var l []api.Poke
		for mfn := range size {
			l = append(l, over(c.reads, mfn))
		}
		x.view(l...)
		x.step(1, 1)
		x.told(api.Reply{ID: 1, Op: int(head[0]), Status: api.SBad})
		x.same(was)
		if x.v.Reads() != c.reads || x.v.Rest() != size {
			t.Errorf("%v: %d reads, not %d", c.r, x.v.Reads(), c.reads)
		}
	}
}
