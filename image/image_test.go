package image_test

import (
	"bytes"
	"math"
	"slices"
	"testing"

	"tenement/api"
	"tenement/image"
)

// size is the number of sectors of the disk that most tests use.
const size = 4

var noSectors = []int{math.MinInt, math.MinInt + 1, -257, -1, size, size + 1, api.MaxSectors, api.MaxSectors + 1, math.MaxInt - 1, math.MaxInt}

// ground is a base of n sectors, no two of which have the same bytes.
func ground(n int) []byte {
	b := make([]byte, n*api.SectorBytes)
	for i := range b {
		b[i] = byte(i*7 + i/api.SectorBytes*11 + 1)
	}
	return b
}

// part is a sector's bytes of a base.
func part(base []byte, sector int) []byte {
	return base[sector*api.SectorBytes : (sector+1)*api.SectorBytes]
}

// all is a sector's bytes that are all the same.
func all(b byte) []byte { return bytes.Repeat([]byte{b}, api.SectorBytes) }

func made(t *testing.T, base []byte, blocks int) *image.Image {
	t.Helper()
	x, e := image.New(base, blocks)
	if x == nil || e != api.OK {
		t.Fatalf("New(%d bytes, %d): %v, %v", len(base), blocks, x != nil, e)
	}
	return x
}

// written is an image of four sectors with three blocks: sector 2 is all 22, sector 0 all 20; 1 and 3 are the base's.
func written(t *testing.T) *image.Image {
	t.Helper()
	x := made(t, ground(size), 3)
	want(t, "Write(2)", x.Write(2, all(22)), api.OK)
	want(t, "Write(0)", x.Write(0, all(20)), api.OK)
	return x
}

// wantWritten asks that an image is as written makes it.
func wantWritten(t *testing.T, x *image.Image) {
	t.Helper()
	base := ground(size)
	wantDisk(t, x, base, all(20), part(base, 1), all(22), part(base, 3))
	wantBlocks(t, x, 1, 0, 2)
}

func want(t *testing.T, what string, got, e api.Errno) {
	t.Helper()
	if got != e {
		t.Errorf("%s: %v, not %v", what, got, e)
	}
}

func wantRead(t *testing.T, x *image.Image, sector int, b []byte, e api.Errno) {
	t.Helper()
	if got, ge := x.Read(sector); !bytes.Equal(got, b) || ge != e {
		t.Errorf("Read(%d) = %x, %v, not %x, %v", sector, got, ge, b, e)
	}
}

func wantBase(t *testing.T, x *image.Image, sector int, b []byte, e api.Errno) {
	t.Helper()
	if got, ge := x.Base(sector); !bytes.Equal(got, b) || ge != e {
		t.Errorf("Base(%d) = %x, %v, not %x, %v", sector, got, ge, b, e)
	}
}

func wantNeed(t *testing.T, x *image.Image, first, n, need int, e api.Errno) {
	t.Helper()
	if got, ge := x.Need(first, n); got != need || ge != e {
		t.Errorf("Need(%d, %d) = %d, %v, not %d, %v", first, n, got, ge, need, e)
	}
}

// wantBlocks asks how many blocks are free, and which sectors have one.
func wantBlocks(t *testing.T, x *image.Image, free int, dirty ...int) {
	t.Helper()
	if x.Free() != free {
		t.Errorf("Free() = %d, not %d", x.Free(), free)
	}
	if l := x.Dirty(); !slices.Equal(l, dirty) {
		t.Errorf("Dirty() = %v, not %v", l, dirty)
	}
}

// wantDisk asks for all sectors' bytes, and for those of the base.
func wantDisk(t *testing.T, x *image.Image, base []byte, sectors ...[]byte) {
	t.Helper()
	if x.Sectors() != len(sectors) {
		t.Fatalf("Sectors() = %d, not %d", x.Sectors(), len(sectors))
	}
	for sector, b := range sectors {
		wantRead(t, x, sector, b, api.OK)
		wantBase(t, x, sector, part(base, sector), api.OK)
	}
}

// P12.1: New

func TestNew(t *testing.T) {
	for _, n := range []int{1, 2, 3, api.MaxSectors - 1, api.MaxSectors} {
		for _, blocks := range []int{0, 1, 2, api.MaxSectors - 1, api.MaxSectors} {
			base := ground(n)
			x := made(t, base, blocks)
			wantBlocks(t, x, blocks)
			var sectors [][]byte
			for sector := range n {
				sectors = append(sectors, part(base, sector))
			}
			wantDisk(t, x, base, sectors...)
			wantRead(t, x, n, nil, api.ErrArg)
			wantNeed(t, x, 0, n, n, api.OK)
		}
	}
}

func TestNoNew(t *testing.T) {
	none := func(n, blocks int, want api.Errno) {
		t.Helper()
		if x, e := image.New(make([]byte, n), blocks); x != nil || e != want {
			t.Errorf("New(%d bytes, %d): %v, %v, not %v", n, blocks, x != nil, e, want)
		}
	}
	const most = api.MaxSectors * api.SectorBytes
	noBlocks := []int{math.MinInt, -257, -1, api.MaxSectors + 1, 512, math.MaxInt}
	for _, n := range []int{1, 2, 32, 63, 65, 127, 129, 16 * 256, most - 63, most - 1} {
		if n%api.SectorBytes != 0 {
			none(n, 0, api.ErrArg)
			none(n, 1, api.ErrArg)
			none(n, -1, api.ErrArg)
		}
	}
	for _, blocks := range noBlocks {
		none(0, blocks, api.ErrArg)
		none(64, blocks, api.ErrArg)
		none(most, blocks, api.ErrArg)
	}
	// What is too long comes first, whatever else it is.
	for _, n := range []int{most + 1, most + 63, most + 64, most + 65, 2 * most} {
		none(n, 0, api.ErrLong)
		none(n, api.MaxSectors, api.ErrLong)
		for _, blocks := range noBlocks {
			none(n, blocks, api.ErrLong)
		}
	}
}

// An image of no sectors is one that a call made, with blocks that no sector can get.
func TestNoSectors(t *testing.T) {
	for _, base := range [][]byte{nil, {}} {
		x := made(t, base, 3)
		for _, y := range []*image.Image{x, x.Copy()} {
			if y == nil || y.Sectors() != 0 {
				t.Fatalf("an image of no sectors: %v, %d sectors", y != nil, y.Sectors())
			}
			for _, sector := range []int{-1, 0, 1} {
				wantRead(t, y, sector, nil, api.ErrArg)
				wantBase(t, y, sector, nil, api.ErrArg)
				want(t, "Write", y.Write(sector, all(1)), api.ErrArg)
				want(t, "Trim", y.Trim(sector), api.ErrArg)
			}
			wantNeed(t, y, 0, 0, 0, api.OK)
			wantNeed(t, y, 0, 1, 0, api.ErrArg)
			wantNeed(t, y, 1, 0, 0, api.ErrArg)
			wantBlocks(t, y, 3)
		}
	}
}

// P12.1: Read, Base

func TestRead(t *testing.T) {
	x := written(t)
	wantWritten(t, x)
	for _, sector := range noSectors {
		wantRead(t, x, sector, nil, api.ErrArg)
		wantBase(t, x, sector, nil, api.ErrArg)
	}
	wantWritten(t, x)
}

// What was written last counts, and what was trimmed since does not.
func TestReadWhatCameLast(t *testing.T) {
	base := ground(size)
	x := made(t, base, 1)
	for i := range 5 {
		want(t, "Write(3)", x.Write(3, all(byte(i))), api.OK)
		wantRead(t, x, 3, all(byte(i)), api.OK)
		wantBase(t, x, 3, part(base, 3), api.OK)
	}
	want(t, "Trim(3)", x.Trim(3), api.OK)
	wantRead(t, x, 3, part(base, 3), api.OK)
	want(t, "Write(3)", x.Write(3, all(9)), api.OK)
	wantDisk(t, x, base, part(base, 0), part(base, 1), part(base, 2), all(9))
}

// P12.2: Write

func TestWrite(t *testing.T) {
	base := ground(size)
	x := made(t, base, 2)
	b := ground(9)
	want(t, "Write(1)", x.Write(1, part(b, 7)), api.OK)
	wantDisk(t, x, base, part(base, 0), part(b, 7), part(base, 2), part(base, 3))
	wantBlocks(t, x, 1, 1)
	want(t, "Write(1) again", x.Write(1, part(b, 8)), api.OK)
	wantDisk(t, x, base, part(base, 0), part(b, 8), part(base, 2), part(base, 3))
	wantBlocks(t, x, 1, 1)
	want(t, "Write(0)", x.Write(0, all(0)), api.OK)
	wantDisk(t, x, base, all(0), part(b, 8), part(base, 2), part(base, 3))
	wantBlocks(t, x, 0, 0, 1)
}

// A sector that is written gets a block, also where its bytes stay as they were.
func TestWriteOfTheSame(t *testing.T) {
	base := ground(size)
	x := made(t, base, 1)
	want(t, "Write(2)", x.Write(2, part(base, 2)), api.OK)
	wantBlocks(t, x, 0, 2)
	wantNeed(t, x, 2, 1, 0, api.OK)
	want(t, "Write(1)", x.Write(1, part(base, 1)), api.ErrFull)
}

func TestWriteErrors(t *testing.T) {
	x := written(t)
	lengths := []int{0, 1, 32, 63, 65, 128, 256}
	for _, sector := range noSectors {
		want(t, "Write to no sector", x.Write(sector, all(1)), api.ErrArg)
		want(t, "Write of nothing to no sector", x.Write(sector, nil), api.ErrArg)
	}
	for sector := range size {
		want(t, "Write of nil", x.Write(sector, nil), api.ErrArg)
		for _, n := range lengths {
			want(t, "Write of another length", x.Write(sector, make([]byte, n)), api.ErrArg)
		}
	}
	wantWritten(t, x)
	// What can't be is ErrArg also where no block is free.
	want(t, "Write(1)", x.Write(1, all(21)), api.OK)
	for _, sector := range noSectors {
		want(t, "Write to no sector of a full disk", x.Write(sector, all(1)), api.ErrArg)
	}
	for _, n := range lengths {
		want(t, "Write of another length to a full disk", x.Write(3, make([]byte, n)), api.ErrArg)
	}
	want(t, "Write to a full disk", x.Write(3, all(23)), api.ErrFull)
}

// Where no block is free, the sectors that have one can be written still, and no other one.
func TestWriteToAFullDisk(t *testing.T) {
	base := ground(size)
	x := made(t, base, 2)
	want(t, "Write(3)", x.Write(3, all(3)), api.OK)
	want(t, "Write(1)", x.Write(1, all(1)), api.OK)
	for range 3 {
		want(t, "Write(0)", x.Write(0, all(7)), api.ErrFull)
		want(t, "Write(2)", x.Write(2, all(7)), api.ErrFull)
		wantDisk(t, x, base, part(base, 0), all(1), part(base, 2), all(3))
		wantBlocks(t, x, 0, 1, 3)
	}
	want(t, "Write(3)", x.Write(3, all(33)), api.OK)
	want(t, "Write(1)", x.Write(1, all(11)), api.OK)
	wantDisk(t, x, base, part(base, 0), all(11), part(base, 2), all(33))
	wantBlocks(t, x, 0, 1, 3)
	want(t, "Trim(3)", x.Trim(3), api.OK)
	want(t, "Write(2)", x.Write(2, all(2)), api.OK)
	want(t, "Write(3)", x.Write(3, all(3)), api.ErrFull)
	wantDisk(t, x, base, part(base, 0), all(11), all(2), part(base, 3))
	wantBlocks(t, x, 0, 1, 2)
}

func TestNoBlocks(t *testing.T) {
	base := ground(size)
	x := made(t, base, 0)
	for sector := range size {
		want(t, "Write", x.Write(sector, all(1)), api.ErrFull)
		want(t, "Trim", x.Trim(sector), api.OK)
	}
	wantDisk(t, x, base, part(base, 0), part(base, 1), part(base, 2), part(base, 3))
	wantBlocks(t, x, 0)
}

// At the limits all is as below them.
func TestTheGreatestDisk(t *testing.T) {
	base := ground(api.MaxSectors)
	x := made(t, base, api.MaxSectors)
	b := ground(api.MaxSectors + 1)[api.SectorBytes:]
	var sectors [][]byte
	var dirty []int
	for i := range api.MaxSectors {
		sector := (i*101 + 7) % api.MaxSectors
		want(t, "Write", x.Write(sector, part(b, sector)), api.OK)
		sectors, dirty = append(sectors, part(b, i)), append(dirty, i)
		if x.Free() != api.MaxSectors-1-i {
			t.Fatalf("Free() = %d behind %d writes", x.Free(), i+1)
		}
	}
	wantDisk(t, x, base, sectors...)
	wantBlocks(t, x, 0, dirty...)
	wantNeed(t, x, 0, api.MaxSectors, 0, api.OK)
	want(t, "Trim of the last one", x.Trim(api.MaxSectors-1), api.OK)
	wantNeed(t, x, 0, api.MaxSectors, 1, api.OK)
	wantNeed(t, x, api.MaxSectors, 0, 0, api.OK)
	wantNeed(t, x, 1, api.MaxSectors, 0, api.ErrArg)
	wantBlocks(t, x, 1, dirty[:api.MaxSectors-1]...)
}

// P12.2: Trim

func TestTrim(t *testing.T) {
	base := ground(size)
	x := written(t)
	for _, sector := range noSectors {
		want(t, "Trim of no sector", x.Trim(sector), api.ErrArg)
	}
	want(t, "Trim of a sector without a block", x.Trim(1), api.OK)
	wantWritten(t, x)
	want(t, "Trim(2)", x.Trim(2), api.OK)
	wantDisk(t, x, base, all(20), part(base, 1), part(base, 2), part(base, 3))
	wantBlocks(t, x, 2, 0)
	want(t, "Trim(2) again", x.Trim(2), api.OK)
	wantBlocks(t, x, 2, 0)
	want(t, "Trim(0)", x.Trim(0), api.OK)
	wantDisk(t, x, base, part(base, 0), part(base, 1), part(base, 2), part(base, 3))
	wantBlocks(t, x, 3)
}

// P12.2: Need

// All runs from ahead of the disk's first sector to behind its last one.
func TestNeed(t *testing.T) {
	x := written(t)
	bare := [size]int{0, 1, 0, 1}
	for first := -2; first <= size+2; first++ {
		for n := -2; n <= size+2; n++ {
			if n < 0 || first < 0 || first > size || first+n > size {
				wantNeed(t, x, first, n, 0, api.ErrArg)
				continue
			}
			need := 0
			for _, k := range bare[first : first+n] {
				need += k
			}
			wantNeed(t, x, first, n, need, api.OK)
		}
	}
	wantWritten(t, x)
}

func TestNeedOfNothing(t *testing.T) {
	x := written(t)
	for first := range size + 1 {
		wantNeed(t, x, first, 0, 0, api.OK)
	}
	for _, first := range noSectors {
		if first != size {
			wantNeed(t, x, first, 0, 0, api.ErrArg)
		}
	}
}

// Runs whose end would be past an int.
func TestNeedOfTooMuch(t *testing.T) {
	x := written(t)
	ends := []int{math.MinInt, math.MinInt + 1, math.MinInt32, -1, size + 1, math.MaxInt32, 1<<32 - 1, math.MaxInt - size, math.MaxInt - 1, math.MaxInt}
	for _, a := range ends {
		for _, b := range ends {
			wantNeed(t, x, a, b, 0, api.ErrArg)
		}
		for k := range size + 1 {
			wantNeed(t, x, k, a, 0, api.ErrArg)
			wantNeed(t, x, a, k, 0, api.ErrArg)
		}
	}
}

// As many blocks as Need tells are just enough.
func TestNeedIsWhatWritesTake(t *testing.T) {
	x := written(t)
	need, _ := x.Need(0, 3)
	free := x.Free()
	for sector := range 3 {
		want(t, "Write", x.Write(sector, all(1)), api.OK)
	}
	if free-x.Free() != need {
		t.Errorf("Need(0, 3) = %d, but %d blocks went", need, free-x.Free())
	}
	wantNeed(t, x, 0, 3, 0, api.OK)
	wantNeed(t, x, 0, 4, 1, api.OK)
	want(t, "Write", x.Write(3, all(1)), api.ErrFull)
}

// P12.2: Dirty

// Sectors are told rising, in whatever order they got their blocks.
func TestDirty(t *testing.T) {
	x := made(t, ground(api.MaxSectors), api.MaxSectors)
	var l []int
	for i := range 100 {
		want(t, "Write", x.Write((i*29+5)%100*2, all(1)), api.OK)
		l = append(l, 2*i)
	}
	for range 20 {
		wantBlocks(t, x, api.MaxSectors-100, l...)
	}
}

// P12.2: Copy

func TestCopy(t *testing.T) {
	base := ground(size)
	x := written(t)
	y := x.Copy()
	wantWritten(t, y)
	want(t, "Write(0)", x.Write(0, all(30)), api.OK)
	want(t, "Write(1)", x.Write(1, all(31)), api.OK)
	want(t, "Trim(2)", x.Trim(2), api.OK)
	wantWritten(t, y)
	want(t, "Write(3)", y.Write(3, all(43)), api.OK)
	want(t, "Write(1)", y.Write(1, all(41)), api.ErrFull)
	want(t, "Trim(0)", y.Trim(0), api.OK)
	wantDisk(t, x, base, all(30), all(31), part(base, 2), part(base, 3))
	wantBlocks(t, x, 1, 0, 1)
	wantDisk(t, y, base, part(base, 0), part(base, 1), all(22), all(43))
	wantBlocks(t, y, 1, 2, 3)
}

func TestCopyOfACopy(t *testing.T) {
	base := ground(size)
	x := made(t, base, 1)
	y := x.Copy()
	z := y.Copy()
	for i, w := range []*image.Image{x, y, z} {
		want(t, "Write", w.Write(i, all(byte(i))), api.OK)
		want(t, "Write", w.Write(3, all(9)), api.ErrFull)
	}
	wantDisk(t, x, base, all(0), part(base, 1), part(base, 2), part(base, 3))
	wantDisk(t, y, base, part(base, 0), all(1), part(base, 2), part(base, 3))
	wantDisk(t, z, base, part(base, 0), part(base, 1), all(2), part(base, 3))
}

// P12.3

func TestNoImage(t *testing.T) {
	for _, x := range []*image.Image{nil, {}, new(image.Image)} {
		for _, n := range append(noSectors, 0, 1) {
			wantRead(t, x, n, nil, api.ErrZero)
			wantBase(t, x, n, nil, api.ErrZero)
			want(t, "Write", x.Write(n, all(1)), api.ErrZero)
			want(t, "Write of nothing", x.Write(n, nil), api.ErrZero)
			want(t, "Trim", x.Trim(n), api.ErrZero)
			wantNeed(t, x, n, n, 0, api.ErrZero)
			wantNeed(t, x, n, 0, 0, api.ErrZero)
			wantNeed(t, x, 0, n, 0, api.ErrZero)
		}
		if x.Sectors() != 0 || x.Copy() != nil {
			t.Errorf("no image: %d sectors, copy %v", x.Sectors(), x.Copy() != nil)
		}
		wantBlocks(t, x, 0)
	}
}

// P4, and of P12.4 that the base never changes

func TestTheBaseIsNotKept(t *testing.T) {
	base := ground(size)
	x := made(t, base, 3)
	want(t, "Write(2)", x.Write(2, all(22)), api.OK)
	want(t, "Write(0)", x.Write(0, all(20)), api.OK)
	if !bytes.Equal(base, ground(size)) {
		t.Error("the base that was handed in has changed")
	}
	clear(base)
	wantWritten(t, x)
}

// A base that is part of more bytes is those bytes alone.
func TestTheBaseEndsWhereItEnds(t *testing.T) {
	more := ground(size + 2)
	x := made(t, more[:size*api.SectorBytes], 1)
	wantRead(t, x, size, nil, api.ErrArg)
	want(t, "Write", x.Write(size-1, all(1)), api.OK)
	if !bytes.Equal(more, ground(size+2)) {
		t.Error("what lies behind the base has changed")
	}
}

func TestWhatIsWrittenIsNotKept(t *testing.T) {
	x := written(t)
	b := all(22)
	want(t, "Write(2)", x.Write(2, b), api.OK)
	b[0] = 9
	wantWritten(t, x)
	want(t, "Write(1)", x.Write(1, b), api.OK)
	if b[0] != 9 || !bytes.Equal(b[1:], all(22)[1:]) {
		t.Errorf("what was handed in has become %x", b)
	}
}

func TestAnswersAreNewMemory(t *testing.T) {
	x := written(t)
	y := x.Copy()
	for sector := range size {
		for _, read := range []func(int) ([]byte, api.Errno){x.Read, x.Base, y.Read, y.Base} {
			b, _ := read(sector)
			clear(b)
			clear(append(b[:1], all(1)...))
			clear(b[:cap(b)])
		}
	}
	l := x.Dirty()
	clear(l)
	_ = append(l[:1], 3)
	wantWritten(t, x)
	wantWritten(t, y)
	// And the other way round: what was told stays.
	b, _ := x.Read(2)
	l = x.Dirty()
	want(t, "Write(2)", x.Write(2, all(9)), api.OK)
	want(t, "Trim(0)", x.Trim(0), api.OK)
	if !bytes.Equal(b, all(22)) || !slices.Equal(l, []int{0, 2}) {
		t.Errorf("what was told has become %x, %v", b, l)
	}
}

// The chapter's example.
func TestExample(t *testing.T) {
	x := made(t, make([]byte, 128), 1)
	if x.Sectors() != 2 {
		t.Errorf("Sectors() = %d", x.Sectors())
	}
	want(t, "Write(0)", x.Write(0, all(7)), api.OK)
	want(t, "Write(1)", x.Write(1, all(7)), api.ErrFull)
	want(t, "Write(0)", x.Write(0, all(7)), api.OK)
	wantBase(t, x, 0, all(0), api.OK)
	want(t, "Trim(0)", x.Trim(0), api.OK)
	want(t, "Write(1)", x.Write(1, all(7)), api.OK)
	wantNeed(t, x, 0, 2, 1, api.OK)
}
