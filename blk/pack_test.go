package blk_test

import (
	"bytes"
	"math"
	"slices"
	"testing"

	"tenement/api"
	"tenement/blk"
)

// seg is a segment.
func seg(ref, first, last int) api.Segment { return api.Segment{Ref: ref, First: first, Last: last} }

// segs are n segments, all of which are well formed, and no two the same.
func segs(n int) []api.Segment {
	var l []api.Segment
	for i := range n {
		first := i % 4
		l = append(l, seg(255-i, first, first+i/4%(4-first)))
	}
	return l
}

func sameRequest(a, b api.Request) bool {
	return a.Op == b.Op && a.ID == b.ID && a.Sector == b.Sector && slices.Equal(a.Segs, b.Segs)
}

// wantPack asks for the bytes, both of which are none beside an error.
func wantPack(t *testing.T, r api.Request, page int, head, paged []byte, e api.Errno) {
	t.Helper()
	if h, p, ge := blk.Pack(r, page); !bytes.Equal(h, head) || !bytes.Equal(p, paged) || ge != e {
		t.Errorf("Pack(%v, %d) = %x, %x, %v, not %x, %x, %v", r, page, h, p, ge, head, paged, e)
	}
}

// wantUnpack asks for a request with its page and its count, which are zero beside an error.
func wantUnpack(t *testing.T, b []byte, r api.Request, page, n int, e api.Errno) {
	t.Helper()
	if gr, gp, gn, ge := blk.Unpack(b); !sameRequest(gr, r) || gp != page || gn != n || ge != e {
		t.Errorf("Unpack(%x) = %v, %d, %d, %v, not %v, %d, %d, %v", b, gr, gp, gn, ge, r, page, n, e)
	}
}

func wantNoUnpack(t *testing.T, b []byte, e api.Errno) {
	t.Helper()
	wantUnpack(t, b, api.Request{}, 0, 0, e)
}

func wantSegments(t *testing.T, b []byte, l []api.Segment, e api.Errno) {
	t.Helper()
	if got, ge := blk.Segments(b); !slices.Equal(got, l) || ge != e {
		t.Errorf("Segments(%x) = %v, %v, not %v, %v", b, got, ge, l, e)
	}
}

// raw is 16 bytes that begin with these, and are noughts from there on.
func raw(b ...byte) []byte { return append(slices.Clone(b), make([]byte, 16-len(b))...) }

// P13.1: Pack

func TestPack(t *testing.T) {
	one := []api.Segment{seg(4, 1, 2)}
	four := []api.Segment{seg(0, 0, 0), seg(255, 3, 3), seg(7, 0, 3), seg(128, 1, 3)}
	fourBytes := []byte{0, 0, 255, 15, 7, 12, 128, 13}
	for _, c := range []struct {
		r    api.Request
		head []byte
	}{
		{api.Request{Op: api.DRead, ID: 258, Sector: 5, Segs: one}, raw(0, 1, 2, 1, 5, 0, 0, 0, 4, 9)},
		{api.Request{Op: api.DWrite, ID: 258, Sector: 5, Segs: one}, raw(1, 1, 2, 1, 5, 0, 0, 0, 4, 9)},
		{api.Request{Op: api.DWrite, ID: 65535, Sector: 1<<32 - 1, Segs: four}, append([]byte{1, 4, 255, 255, 255, 255, 255, 255}, fourBytes...)},
		{api.Request{Op: api.DRead, Sector: 0x04030201, Segs: four[:3]}, append([]byte{0, 3, 0, 0, 1, 2, 3, 4}, append(fourBytes[:6:6], 0, 0)...)},
		{api.Request{Op: api.DBarrier, ID: 0xabcd, Sector: 0x10000}, raw(2, 0, 0xcd, 0xab, 0, 0, 1)},
		{api.Request{Op: api.DBarrier, Segs: []api.Segment{}}, raw(2)},
	} {
		wantPack(t, c.r, -1, c.head, nil, api.OK)
	}
}

func TestPackIntoAPage(t *testing.T) {
	one := []api.Segment{seg(4, 1, 2)}
	wantPack(t, api.Request{Op: api.DRead, ID: 258, Sector: 5, Segs: one}, 9, raw(3, 1, 2, 1, 5, 0, 0, 0, 9, 0), []byte{4, 9}, api.OK)
	wantPack(t, api.Request{Op: api.DWrite, ID: 1, Sector: 1<<32 - 1, Segs: one}, 0, raw(3, 1, 1, 0, 255, 255, 255, 255, 0, 1), []byte{4, 9}, api.OK)
	for n := 1; n <= 16; n++ {
		var paged []byte
		for _, s := range segs(n) {
			paged = append(paged, byte(s.Ref), byte(s.First+4*s.Last))
		}
		wantPack(t, api.Request{Op: api.DWrite, Segs: segs(n)}, 255, raw(3, byte(n), 0, 0, 0, 0, 0, 0, 255, 1), paged, api.OK)
	}
}

// good is a request that is packed as it is and by a page.
func good() api.Request {
	return api.Request{Op: api.DWrite, ID: 7, Sector: 3, Segs: []api.Segment{seg(1, 0, 1), seg(2, 2, 2)}}
}

// wrongs are requests that differ from good in one number that no bytes tell.
func wrongs() []api.Request {
	var l []api.Request
	with := func(change func(r *api.Request)) {
		r := good()
		change(&r)
		l = append(l, r)
	}
	for _, n := range []int{math.MinInt, math.MinInt32, -257, -256, -4, -1, 1 << 32, 1<<32 + 1, 1 << 40, math.MaxInt - 1, math.MaxInt} {
		with(func(r *api.Request) { r.Op = n })
		with(func(r *api.Request) { r.ID = n })
		with(func(r *api.Request) { r.Sector = n })
		for i := range 2 {
			with(func(r *api.Request) { r.Segs[i].Ref = n })
			with(func(r *api.Request) { r.Segs[i].First = n })
			with(func(r *api.Request) { r.Segs[i].Last = n })
		}
	}
	for _, op := range []int{api.DIndirect, 4, 255, 256, 257} {
		with(func(r *api.Request) { r.Op = op })
	}
	with(func(r *api.Request) { r.ID = 65536 })
	for i := range 2 {
		with(func(r *api.Request) { r.Segs[i].Ref = 256 })
		with(func(r *api.Request) { r.Segs[i].First = 4 })
		with(func(r *api.Request) { r.Segs[i].Last = 4 })
		with(func(r *api.Request) { r.Segs[i].First, r.Segs[i].Last = 4, 4 })
	}
	return l
}

func TestPackArguments(t *testing.T) {
	for _, r := range wrongs() {
		for _, page := range []int{-1, 0, 9, 255} {
			wantPack(t, r, page, nil, nil, api.ErrArg)
		}
	}
	for _, page := range []int{math.MinInt, -256, -2, 256, 257, 1 << 32, math.MaxInt} {
		wantPack(t, good(), page, nil, nil, api.ErrArg)
		wantPack(t, api.Request{Op: api.DBarrier}, page, nil, nil, api.ErrArg)
	}
}

func TestPackWhatIsMalformed(t *testing.T) {
	back := []api.Segment{seg(1, 0, 0), seg(1, 3, 2), seg(1, 0, 0)}
	for _, op := range []int{api.DRead, api.DWrite} {
		for n := range 40 {
			_, _, e := blk.Pack(api.Request{Op: op, Segs: segs(n)}, -1)
			want(t, "Pack as it is", e, when(n < 1 || n > 4, api.ErrForm))
			_, _, e = blk.Pack(api.Request{Op: op, Segs: segs(n)}, 9)
			want(t, "Pack by a page", e, when(n < 1 || n > 16, api.ErrForm))
		}
		for _, n := range []int{256, 257, 258, 260, 1000} {
			wantPack(t, api.Request{Op: op, Segs: make([]api.Segment, n)}, -1, nil, nil, api.ErrForm)
			wantPack(t, api.Request{Op: op, Segs: make([]api.Segment, n)}, 9, nil, nil, api.ErrForm)
		}
		for _, page := range []int{-1, 0, 255} {
			wantPack(t, api.Request{Op: op}, page, nil, nil, api.ErrForm)
			for n := 2; n <= 3; n++ {
				wantPack(t, api.Request{Op: op, Segs: back[:n]}, page, nil, nil, api.ErrForm)
				wantPack(t, api.Request{Op: op, Segs: back[3-n:]}, page, nil, nil, api.ErrForm)
			}
		}
	}
	for n := range 20 {
		r := api.Request{Op: api.DBarrier, Segs: segs(n)}
		_, _, e := blk.Pack(r, -1)
		want(t, "Pack of a barrier", e, when(n > 0, api.ErrForm))
		wantPack(t, r, 0, nil, nil, api.ErrForm)
		wantPack(t, r, 255, nil, nil, api.ErrForm)
	}
}

// when is an error, if so; else none.
func when(is bool, e api.Errno) api.Errno {
	if is {
		return e
	}
	return api.OK
}

// Where both apply, ErrArg is named first.
func TestPackArgumentsAheadOfForm(t *testing.T) {
	for _, r := range wrongs() {
		many := r
		many.Segs = append(slices.Clone(r.Segs), segs(16)...)
		wantPack(t, many, 9, nil, nil, api.ErrArg)
		wantPack(t, many, -1, nil, nil, api.ErrArg)
		back := r
		back.Segs = append([]api.Segment{seg(0, 1, 0)}, r.Segs...)
		wantPack(t, back, 9, nil, nil, api.ErrArg)
	}
	wantPack(t, api.Request{Op: api.DBarrier, Segs: []api.Segment{seg(256, 0, 0)}}, -1, nil, nil, api.ErrArg)
	wantPack(t, api.Request{Op: api.DRead}, 256, nil, nil, api.ErrArg)
}

// P13.1: Unpack

// All first bytes with all counts; the segments themselves are well formed.
func TestUnpackOpsAndCounts(t *testing.T) {
	for op := range 256 {
		for n := range 256 {
			b := raw(byte(op), byte(n), 0x34, 0x12, 4, 3, 2, 1)
			r := api.Request{Op: op, ID: 0x1234, Sector: 0x01020304}
			switch {
			case op <= 1 && n >= 1 && n <= 4:
				r.Segs = make([]api.Segment, n)
				wantUnpack(t, b, r, -1, n, api.OK)
			case op == 2 && n == 0:
				wantUnpack(t, b, r, -1, 0, api.OK)
			case op == 3 && n >= 1 && n <= 16:
				r.Op = api.DRead
				wantUnpack(t, b, r, 0, n, api.OK)
			default:
				wantNoUnpack(t, b, api.ErrForm)
			}
		}
	}
}

// All ops proper, with all refs; an indirect page never names another one.
func TestUnpackOpsProper(t *testing.T) {
	for proper := range 256 {
		for ref := range 256 {
			b := raw(3, 16, 255, 255, 255, 255, 255, 255, byte(ref), byte(proper))
			if proper <= 1 {
				wantUnpack(t, b, api.Request{Op: proper, ID: 65535, Sector: 1<<32 - 1}, ref, 16, api.OK)
			} else {
				wantNoUnpack(t, b, api.ErrForm)
			}
		}
	}
}

// All second bytes of a segment, at each place where one can stand.
func TestUnpackSegments(t *testing.T) {
	for n := 1; n <= 4; n++ {
		for at := range 4 {
			for x := range 256 {
				b := raw(1, byte(n), 9, 0, 8)
				r := api.Request{Op: api.DWrite, ID: 9, Sector: 8}
				for i := range 4 {
					b[8+2*i] = byte(10 + i)
				}
				b[9+2*at] = byte(x)
				for i := range n {
					r.Segs = append(r.Segs, seg(10+i, 0, 0))
				}
				first, last := x%4, x/4%4
				switch {
				case at >= n: // What stands behind the last segment is none.
					wantUnpack(t, b, r, -1, n, api.OK)
				case x > 15 || first > last:
					wantNoUnpack(t, b, api.ErrForm)
				default:
					r.Segs[at] = seg(10+at, first, last)
					wantUnpack(t, b, r, -1, n, api.OK)
				}
			}
		}
	}
}

// Of a barrier nothing behind the sector counts, of one that names a page nothing behind the op proper.
func TestUnpackWhatCountsForNothing(t *testing.T) {
	b := bytes.Repeat([]byte{255}, 16)
	b[0], b[1] = 2, 0
	wantUnpack(t, b, api.Request{Op: api.DBarrier, ID: 65535, Sector: 1<<32 - 1}, -1, 0, api.OK)
	b[0], b[1], b[9] = 3, 5, 1
	wantUnpack(t, b, api.Request{Op: api.DWrite, ID: 65535, Sector: 1<<32 - 1}, 255, 5, api.OK)
}

func TestUnpackOtherLengths(t *testing.T) {
	for n := range 64 {
		b := make([]byte, n)
		if n > 1 {
			b[1] = 1
		}
		if n == 16 {
			wantUnpack(t, b, api.Request{Segs: make([]api.Segment, 1)}, -1, 1, api.OK)
		} else {
			wantNoUnpack(t, b, api.ErrArg)
			wantNoUnpack(t, bytes.Repeat([]byte{255}, n), api.ErrArg)
		}
	}
	wantNoUnpack(t, nil, api.ErrArg)
}

// Unpack and Segments tell what Pack was told, and Pack lays it out again as it was.
func TestPackAndBack(t *testing.T) {
	d := new(dice)
	for range 3000 {
		r := api.Request{Op: d.below(2), ID: d.below(1 << 16), Sector: d.below(1<<16)<<16 | d.below(1<<16)}
		page := d.of(-1, d.below(256))
		for range 1 + d.below(d.of(4, 16)) {
			first := d.below(4)
			r.Segs = append(r.Segs, seg(d.below(256), first, first+d.below(4-first)))
		}
		if page == -1 && len(r.Segs) > 4 {
			r.Op, r.Segs = api.DBarrier, nil
		}
		head, paged, e := blk.Pack(r, page)
		want(t, "Pack", e, api.OK)
		if page == -1 {
			wantUnpack(t, head, r, -1, len(r.Segs), api.OK)
			continue
		}
		wantUnpack(t, head, api.Request{Op: r.Op, ID: r.ID, Sector: r.Sector}, page, len(r.Segs), api.OK)
		wantSegments(t, paged, r.Segs, api.OK)
	}
}

// P13.1: Segments

func TestSegments(t *testing.T) {
	wantSegments(t, nil, nil, api.OK)
	wantSegments(t, []byte{}, nil, api.OK)
	wantSegments(t, []byte{3, 4, 4, 9, 255, 15}, []api.Segment{seg(3, 0, 1), seg(4, 1, 2), seg(255, 3, 3)}, api.OK)
	for x := range 256 {
		for _, ref := range []byte{0, 1, 16, 255} {
			one, e := []api.Segment{seg(int(ref), x%4, x/4)}, api.OK
			if x > 15 || x%4 > x/4 {
				one, e = nil, api.ErrForm
			}
			wantSegments(t, []byte{ref, byte(x)}, one, e)
			for _, b := range [][]byte{{0, 0, ref, byte(x)}, {ref, byte(x), 0, 0}, {0, 0, ref, byte(x), 0, 0}} {
				_, ge := blk.Segments(b)
				want(t, "Segments of more", ge, e)
			}
		}
	}
}

// There may be more of them than a request has.
func TestSegmentsWithoutEnd(t *testing.T) {
	for _, n := range []int{4, 5, 16, 17, 128, 129, 5000} {
		var b []byte
		var l []api.Segment
		for i := range n {
			b, l = append(b, byte(i), byte(i%4*5)), append(l, seg(i%256, i%4, i%4))
		}
		wantSegments(t, b, l, api.OK)
		wantSegments(t, append(b, 0, 1), nil, api.ErrForm)
		wantSegments(t, append(b, 0, 16), nil, api.ErrForm)
		wantSegments(t, append(b, 0), nil, api.ErrArg)
	}
}

// Where both apply, ErrArg is named first.
func TestSegmentsOdd(t *testing.T) {
	for n := 1; n < 40; n += 2 {
		wantSegments(t, make([]byte, n), nil, api.ErrArg)
		wantSegments(t, bytes.Repeat([]byte{255}, n), nil, api.ErrArg)
	}
}

// P13.1: PackReply and UnpackReply

func TestReplyBytes(t *testing.T) {
	for _, id := range []int{0, 1, 255, 256, 0x1234, 65535} {
		for op := range 256 {
			for _, status := range []int{0, 1, 2, 3, op, 255} {
				r := api.Reply{ID: id, Op: op, Status: status}
				b := []byte{byte(id % 256), byte(id / 256), byte(op), byte(status), 0, 0, 0, 0}
				if got, e := blk.PackReply(r); !bytes.Equal(got, b) || e != api.OK {
					t.Errorf("PackReply(%v) = %x, %v", r, got, e)
				}
				if got, e := blk.UnpackReply(b); got != r || e != api.OK {
					t.Errorf("UnpackReply(%x) = %v, %v", b, got, e)
				}
				copy(b[4:], []byte{1, 255, 3, 4})
				if got, e := blk.UnpackReply(b); got != r || e != api.OK {
					t.Errorf("UnpackReply(%x) = %v, %v", b, got, e)
				}
			}
		}
	}
}

func TestReplyArguments(t *testing.T) {
	for _, n := range []int{math.MinInt, math.MinInt32, -65536, -256, -1, 65536, 65537, 1 << 32, math.MaxInt} {
		for _, r := range []api.Reply{{ID: n}, {Op: n}, {Status: n}, {ID: n, Op: n, Status: n}} {
			wantNoReply(t, r)
		}
	}
	for _, n := range []int{256, 257, 511, 512, 65535} {
		wantNoReply(t, api.Reply{Op: n})
		wantNoReply(t, api.Reply{Status: n})
	}
	for n := range 40 {
		if n == 8 {
			continue
		}
		if r, e := blk.UnpackReply(bytes.Repeat([]byte{7}, n)); r != (api.Reply{}) || e != api.ErrArg {
			t.Errorf("UnpackReply of %d bytes = %v, %v", n, r, e)
		}
	}
}

func wantNoReply(t *testing.T, r api.Reply) {
	t.Helper()
	if b, e := blk.PackReply(r); b != nil || e != api.ErrArg {
		t.Errorf("PackReply(%v) = %x, %v", r, b, e)
	}
}

// P4

func TestBytesAreTheirOwn(t *testing.T) {
	r := good()
	head, paged, _ := blk.Pack(r, 9)
	clear(head[:cap(head)])
	clear(paged[:cap(paged)])
	b, _, _ := blk.Pack(r, -1)
	kept := slices.Clone(b)
	got, _, _, _ := blk.Unpack(b)
	l, _ := blk.Segments(b[8:12])
	got.Segs[0].Ref = 99
	clear(l)
	if !bytes.Equal(b, kept) || !sameRequest(r, good()) {
		t.Errorf("what was handed in has changed: %x, %v", b, r)
	}
	wantPack(t, r, 9, raw(3, 2, 7, 0, 3, 0, 0, 0, 9, 1), []byte{1, 4, 2, 10}, api.OK)
	clear(b)
	wantPack(t, r, -1, kept, nil, api.OK)
}

// The chapter's examples.
func TestExamplesOfBytes(t *testing.T) {
	b := raw(1, 1, 7, 0, 2, 0, 0, 0, 3, 4)
	wantUnpack(t, b, api.Request{Op: api.DWrite, ID: 7, Sector: 2, Segs: []api.Segment{seg(3, 0, 1)}}, -1, 1, api.OK)
	b[9] = 0x10
	wantNoUnpack(t, b, api.ErrForm)
}
