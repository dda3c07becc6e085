package blk_test

import (
	"bytes"
	"math"
	"slices"
	"testing"

	"tenement/api"
	"tenement/blk"
	"tenement/image"
)

// ghost is a backend that does by hand, byte for byte, what the chapters say: it has no maps, for it lets go at once whatever it takes.
type ghost struct {
	bytes   [size][256]byte
	pokes   []api.Poke
	reads   int
	held    int                // maps of the backend's domain that others made
	disk    [sectors]*[64]byte // blocks by sectors; nil: the base
	blocks  int
	taken   int
	seen    int
	replies []api.Reply
	why     string // of the last request
}

// read does the rewrites of this read, and then tells the bytes.
func (g *ghost) read(mfn, off, n int) []byte {
	for _, p := range g.pokes {
		if p.At == g.reads && p.Mfn != tab && p.Mfn != free && p.Off+len(p.Bytes) <= 256 {
			copy(g.bytes[p.Mfn][p.Off:], p.Bytes)
		}
	}
	g.reads++
	return bytes.Clone(g.bytes[mfn][off : off+n])
}

// step does up to so many requests, and tells how many.
func (g *ghost) step(most int) int {
	two := g.read(slots, 0, 2)
	index := int(two[0]) + 256*int(two[1])
	g.seen = g.taken + 8
	for n := range 8 {
		if (g.taken+n)%65536 == index {
			g.seen = g.taken + n
		}
	}
	n := 0
	for ; n < most && g.taken < g.seen; n++ {
		b := g.read(slots, 16+16*(g.taken%8), 16)
		at := 144 + 8*(g.taken%8)
		g.taken++
		status := g.serve(b)
		copy(g.bytes[slots][at:], []byte{b[2], b[3], b[0], byte(status), 0, 0, 0, 0})
		copy(g.bytes[slots][2:], []byte{byte(g.taken), byte(g.taken >> 8)})
		g.replies = append(g.replies, api.Reply{ID: int(b[2]) + 256*int(b[3]), Op: int(b[0]), Status: status})
	}
	return n
}

// piece is a part of a page by a ref.
type piece struct{ ref, first, last int }

// pieces tells the segments of some bytes, if all of them can be.
func pieces(b []byte) ([]piece, bool) {
	var l []piece
	for i := 0; i < len(b); i += 2 {
		p := piece{int(b[i]), int(b[i+1] & 3), int(b[i+1] >> 2 & 3)}
		if b[i+1]&0xf0 != 0 || p.last < p.first {
			return nil, false
		}
		l = append(l, p)
	}
	return l, true
}

// parse tells the op proper and the segments.
func (g *ghost) parse(b []byte) (op int, l []piece, ok bool) {
	n := int(b[1])
	switch b[0] {
	case 0, 1:
		if n == 0 || n > 4 {
			return 0, nil, false
		}
		l, ok = pieces(b[8 : 8+2*n])
		return int(b[0]), l, ok
	case 2:
		return 2, nil, n == 0
	case 3:
		if n == 0 || n > 16 || b[9] > 1 {
			return 0, nil, false
		}
		mfn, e, ok := g.entry(int(b[8]))
		if !ok || 2*n > int(e[7])+1 {
			g.why = "page"
			return 0, nil, false
		}
		l, ok = pieces(g.read(mfn, int(e[6]), 2*n))
		return int(b[9]), l, ok
	}
	return 0, nil, false
}

// entry reads an entry, and tells the frame that it permits the backend, if it does, and its bytes; of a whole page the last two are laid so.
func (g *ghost) entry(ref int) (int, []byte, bool) {
	if ref > 31 {
		return 0, nil, false
	}
	e := g.read(table, 8*ref, 8)
	if e[0]&8 == 0 {
		e[6], e[7] = 0, 255
	}
	mine := e[0] < 16 && e[0]&3 == 1 && e[1] == 0 && e[2] == 0 && e[3] == 0
	there := e[4] >= table && e[4] <= tab && e[5] == 0
	return int(e[4]), e, mine && there && int(e[6])+int(e[7]) < 256
}

// serve does a request and tells its status.
func (g *ghost) serve(b []byte) int {
	g.why = "form"
	op, l, ok := g.parse(b)
	if !ok {
		return api.SBad
	}
	sector := int(b[4]) + 256*int(b[5]) + 65536*int(b[6]) + 1<<24*int(b[7])
	n := 0
	for _, p := range l {
		n += p.last - p.first + 1
	}
	g.why = "sector"
	if sector+n > sectors {
		return api.SBad
	}
	g.why = "map"
	var frames []int
	for i, p := range l {
		if p.ref > 31 || g.held+i > 15 {
			return api.SBad
		}
		mfn, e, ok := g.entry(p.ref)
		if !ok || e[0]&8 != 0 || op == api.DRead && (e[0]&4 != 0 || mfn == tab) {
			return api.SBad
		}
		frames = append(frames, mfn)
	}
	g.why = "done"
	switch op {
	case api.DRead:
		g.readDisk(sector, l, frames)
	case api.DWrite:
		return g.writeDisk(sector, l, frames)
	}
	return api.SOK
}

func (g *ghost) readDisk(sector int, l []piece, frames []int) {
	for i, p := range l {
		for place := p.first; place <= p.last; place++ {
			copy(g.bytes[frames[i]][64*place:], g.sector(sector))
			sector++
		}
	}
}

func (g *ghost) sector(n int) []byte {
	if g.disk[n] == nil {
		return based(n, 1)
	}
	return g.disk[n][:]
}

func (g *ghost) writeDisk(sector int, l []piece, frames []int) int {
	var data []byte
	for i, p := range l {
		data = append(data, g.read(frames[i], 64*p.first, 64*(p.last-p.first+1))...)
	}
	was := g.disk
	for i := range len(data) / 64 {
		g.disk[sector+i] = (*[64]byte)(data[64*i:])
	}
	if len(g.dirty()) > g.blocks {
		g.disk = was
		return api.SFull
	}
	return api.SOK
}

func (g *ghost) dirty() []int {
	var l []int
	for n, block := range g.disk {
		if block != nil {
			l = append(l, n)
		}
	}
	return l
}

// game is a bed and the ghost of its backend.
type game struct {
	*bed
	dice   *dice
	ghost  *ghost
	frames []api.Frame // as they are between any two Steps
	was    int         // replies, up to the last Step
}

func newGame(t *testing.T, d *dice) *game {
	t.Helper()
	blocks := d.of(0, 2, 5, 9, sectors, sectors)
	x := &game{bed: makeBed(t, blocks), dice: d, ghost: &ghost{blocks: blocks, held: d.of(0, 0, 0, 0, 1, 12, 14, 15, 16)}}
	for range x.ghost.held {
		_, e := x.g.Map(x.v, 0, 1, b2, false)
		want(t, "Map", e, api.OK)
	}
	for mfn := range size {
		b, _ := x.m.Read(mfn, 0, 256)
		x.ghost.bytes[mfn] = [256]byte(b)
	}
	x.frames = x.picture().frames
	return x
}

// both lays bytes into a frame of the machine's and of the ghost's.
func (x *game) both(mfn, off int, b ...byte) {
	x.t.Helper()
	x.lay(mfn, off, b...)
	copy(x.ghost.bytes[mfn][off:], b)
}

// ref is most often one that can be mapped.
func (d *dice) ref() byte {
	return byte(d.of(b1, b2, b3, b1, b2, b3, b1, b2, b3, last, last, readOnly, table, slots, list, tab, d.below(18), d.below(256)))
}

// parts are the bytes of n segments.
func (d *dice) parts(n int) []byte {
	var b []byte
	for range n {
		first := d.below(4)
		x := byte(first + 4*d.of(first, first, first, 3))
		if d.below(80) == 0 {
			x = byte(d.below(256))
		}
		b = append(b, d.ref(), x)
	}
	return b
}

// slot is the bytes of a request, most often one that is well formed.
func (d *dice) slot() []byte {
	op := d.of(0, 0, 1, 1, 1, 2, 3, 3, 3)
	n := [4]int{1 + d.below(4), 1 + d.below(4), 0, d.of(1, 2, 3, 5, 8, 16)}[op]
	if d.below(20) == 0 {
		op, n = d.of(0, 1, 2, 3, d.below(256)), d.of(0, 4, 5, 16, 17, d.below(256))
	}
	sector := d.of(0, 1, 4, 4, 5, 7, 10, 15, 18, 19, 20, 21)
	b := append([]byte{byte(op), byte(n), byte(d.below(256)), byte(d.of(0, 0, 1, 255)), byte(sector), 0, 0, 0}, d.parts(4)...)
	if d.below(40) == 0 {
		b[5+d.below(3)] = byte(d.of(1, 128, 255))
	}
	if op == api.DIndirect {
		b[8], b[9] = byte(d.of(list, list, list, list, list, partly, int(d.ref()))), byte(d.of(0, 0, 1, 1, 1, 0, 1, 1, d.below(4)))
	}
	return b
}

// laid is an entry's bytes, of a part or not; most of them permit the backend a frame.
func (d *dice) laid() []byte {
	b := []byte{byte(d.of(1, 1, 1, 1, 1, 1, 5, 9, 0, 2, 13, 3, 0x11)), 0, 0, 0, byte(d.of(b1, b2, b3, b1, b2, b3, list, d.below(size+2))), 0, byte(d.of(0, 16, 200)), byte(d.of(7, 55, 56, 255))}
	if d.below(20) == 0 {
		b[1+d.of(0, 1, 2, 4)] = 1
	}
	return b
}

// change is what a front lays somewhere.
func (d *dice) change(taken int) api.Poke {
	p := api.Poke{At: d.below(12) + d.of(0, 0, 12)}
	switch d.below(9) {
	case 0:
		index := taken + d.of(0, 1, 1, 2, 3, 8, 9, 40000)
		p.Mfn, p.Bytes = slots, []byte{byte(index), byte(index >> 8)}
	case 1, 2:
		p.Mfn, p.Off, p.Bytes = slots, 16+16*d.below(8), d.slot()
	case 3, 4:
		p.Mfn, p.Off, p.Bytes = table, 8*int(d.ref()%32), d.laid()
	case 5, 6:
		n := d.below(14)
		p.Mfn, p.Off, p.Bytes = list, 2*n, d.parts(16-n)
	default:
		p.Mfn, p.Off, p.Bytes = d.of(b1, b2, b3, tab, alien, own, free), d.below(256), []byte{byte(d.below(256)), byte(d.below(256))}
	}
	return p
}

// front does what a front may do between two Steps, and prepares what it does in the next one.
func (x *game) front() {
	x.t.Helper()
	n := x.dice.of(1, 1, 2, 3, 8, 0, 9)
	for i := range n {
		x.both(slots, 16+16*((x.ghost.taken+i)%8), x.dice.slot()...)
	}
	x.both(slots, 0, byte(x.ghost.taken+n), byte((x.ghost.taken+n)>>8))
	x.both(list, 0, x.dice.parts(16)...)
	for range x.dice.below(4) {
		p := x.dice.change(x.ghost.taken)
		if p.Mfn != tab && p.Mfn != free && p.Mfn != own && p.Off+len(p.Bytes) <= 256 {
			x.both(p.Mfn, p.Off, p.Bytes...)
		}
	}
	if x.dice.below(6) == 0 { // The entries are as they were to begin with.
		x.grants(0)
		b, _ := x.m.Read(table, 0, 256)
		x.ghost.bytes[table] = [256]byte(b)
	}
	x.ghost.pokes, x.ghost.reads = nil, 0
	for range x.dice.of(0, 0, 1, 2, 6, 20) {
		x.ghost.pokes = append(x.ghost.pokes, x.dice.change(x.ghost.taken))
	}
	x.view(x.ghost.pokes...)
}

// step does a Step of both.
func (x *game) step() {
	x.t.Helper()
	most := x.dice.of(8, 8, math.MaxInt, 1, 2, 0)
	n := x.ghost.step(most)
	if got, e := x.d.Step(x.v, most); got != n || e != api.OK {
		x.t.Fatalf("Step(%d) = %d, %v, not %d", most, got, e, n)
	}
	if x.v.Reads() != x.ghost.reads {
		x.t.Fatalf("%d reads, not %d", x.v.Reads(), x.ghost.reads)
	}
}

// compare asks that both have come to the same.
func (x *game) compare() {
	x.t.Helper()
	p := x.picture()
	if l := x.d.Replies(); !slices.Equal(l, x.ghost.replies) {
		x.t.Fatalf("Replies are %v, not %v", l[min(x.was, len(l)):], x.ghost.replies[x.was:])
	}
	for mfn := range size {
		if b, _ := x.m.Read(mfn, 0, 256); !bytes.Equal(b, x.ghost.bytes[mfn][:]) {
			x.t.Fatalf("frame %d is %x, not %x", mfn, b, x.ghost.bytes[mfn])
		}
	}
	for n := range sectors {
		if b, _ := x.x.Read(n); !bytes.Equal(b, x.ghost.sector(n)) {
			x.t.Fatalf("sector %d is %x, not %x", n, b, x.ghost.sector(n))
		}
		if b, _ := x.x.Base(n); !bytes.Equal(b, based(n, 1)) {
			x.t.Fatalf("the base has changed: sector %d is %x", n, b)
		}
	}
	if !slices.Equal(p.dirty, x.ghost.dirty()) || p.free != x.ghost.blocks-len(p.dirty) {
		x.t.Fatalf("dirty are %v, not %v; %d are free", p.dirty, x.ghost.dirty(), p.free)
	}
	if !slices.Equal(p.frames, x.frames) || len(x.g.Maps(0)) != x.ghost.held {
		x.t.Fatalf("frames are %v, not %v", p.frames, x.frames)
	}
	if r := x.d.Ring(); int(r.Taken()) != x.ghost.taken%65536 || r.Laid() != r.Taken() || r.Waiting() != x.ghost.seen-x.ghost.taken {
		x.t.Fatalf("taken %d, laid %d, %d wait", r.Taken(), r.Laid(), r.Waiting())
	}
	x.was = len(x.ghost.replies)
}

// P13.5, and with it P13.3 for requests of all kinds in any order, with rewrites between all reads. Of the last request of each Step it is known why it was answered so.
func TestAgainstAGhost(t *testing.T) {
	d := new(dice)
	met := map[[2]int]int{}
	why := map[string]int{}
	for range 500 {
		x := newGame(t, d)
		for range 60 {
			x.front()
			x.step()
			why[x.ghost.why]++
			for _, r := range x.ghost.replies[x.was:] {
				met[[2]int{min(r.Op, 4), r.Status}]++
			}
			x.compare()
		}
	}
	for _, c := range [][2]int{{0, 0}, {0, 1}, {1, 0}, {1, 1}, {1, 2}, {2, 0}, {2, 1}, {3, 0}, {3, 1}, {3, 2}, {4, 1}} {
		if met[c] < 100 {
			t.Errorf("op %d was answered %d too seldom: %v", c[0], c[1], met)
		}
	}
	for _, word := range []string{"form", "page", "sector", "map", "done"} {
		if why[word] < 100 {
			t.Errorf("%s: too seldom: %v", word, why)
		}
	}
}

// Each request is answered once, in order, over more of them than the ring's numbers tell apart.
func TestOverTheEndOfTheNumbers(t *testing.T) {
	x := makeBed(t, 1)
	for id := range 70000 {
		b := raw(api.DBarrier, 0, byte(id), byte(id>>8))
		x.putRaw(b)
		if id%8 != 7 {
			continue
		}
		x.step(8, 8)
		for i := id - 7; i <= id; i++ {
			x.answered(api.Reply{ID: i % 65536, Op: api.DBarrier})
		}
		if t.Failed() {
			t.FailNow()
		}
	}
	for i, r := range x.d.Replies() {
		if r != (api.Reply{ID: i % 65536, Op: api.DBarrier}) {
			t.Fatalf("reply %d is %v", i, r)
		}
	}
	if len(x.d.Replies()) != 70000 {
		t.Errorf("%d replies", len(x.d.Replies()))
	}
}

// P5: the same calls tell the same, whatever is done to other backends meanwhile.
func TestSameCallsSameAnswers(t *testing.T) {
	run := func(others bool) ([]api.Reply, picture) {
		d := new(dice)
		x, y := newGame(t, d), newGame(t, new(dice))
		for range 100 {
			x.front()
			x.d.Step(x.v, 8)
			x.ghost.taken = int(x.d.Ring().Taken())
			if others {
				y.front()
				y.d.Step(y.v, 5)
			}
		}
		return x.d.Replies(), x.picture()
	}
	first, p := run(false)
	second, q := run(true)
	if !slices.Equal(first, second) || !p.equal(q) || len(first) == 0 {
		t.Error("the same calls have not told the same")
	}
}

// P1: no call panics, when what it is given can't be.
func TestWhatCantBe(t *testing.T) {
	d := new(dice)
	ends := []int{math.MinInt, math.MinInt + 1, -1, 0, 1, 3, 4, 255, 256, 65536, 1 << 32, math.MaxInt - 1, math.MaxInt}
	x := makeBed(t, 1)
	disk, _ := image.New(nil, 0)
	for range 20000 {
		r := request(d.of(ends...), d.of(ends...), d.of(ends...))
		for range d.of(0, 1, 4, 5, 16, 17, 300) {
			r.Segs = append(r.Segs, seg(d.of(ends...), d.of(ends...), d.of(ends...)))
		}
		blk.Pack(r, d.of(ends...))
		blk.PackReply(api.Reply{ID: d.of(ends...), Op: d.of(ends...), Status: d.of(ends...)})
		b := make([]byte, d.of(0, 1, 2, 7, 8, 9, 15, 16, 17, 300))
		for i := range b {
			b[i] = byte(d.below(256))
		}
		blk.Unpack(b)
		blk.Segments(b)
		blk.UnpackReply(b)
		back, e := blk.New(x.g, d.of(ends...), d.of(ends...), d.of(ends...), disk)
		if e == api.OK {
			x.lay(d.of(list, b1), 0, d.parts(128)...)
			back.Step(x.v, d.of(ends...))
		}
	}
}
