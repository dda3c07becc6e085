package blk

import (
	"slices"

	"tenement/api"
	"tenement/view"
)

// task is what a request that is well formed asks for.
type task interface {
	// sectors is the first one that it is about, and how many.
	sectors() (int, int)
}

// run is sectors one behind the other, and the parts of pages that they come from or go to.
type run struct {
	first int
	segs  []api.Segment
}

// The kinds of tasks.
type (
	reading struct{ run }
	writing struct{ run }
	barrier struct{ run }
)

func (r run) sectors() (int, int) {
	n := 0
	for _, s := range r.segs {
		n += sectorsOf(s)
	}
	return r.first, n
}

// serve does a request and tells its status. What can't be done leaves from wherever that shows, so that nobody on the way has to hand its error on.
func (b *Back) serve(v *view.View, raw []byte) (status int) {
	defer func() {
		if recover() != nil {
			status = api.SBad
		}
	}()
	t := b.task(v, raw)
	need, e := b.disk.Need(t.sectors())
	check(e)
	switch t := t.(type) {
	case reading:
		b.read(v, t.run)
	case writing:
		l := b.gather(v, t.run)
		// Looked at ahead of the first sector, so that a write is done whole or not at all.
		if need > b.disk.Free() {
			return api.SFull
		}
		b.write(t.first, l)
	case barrier:
		// All requests ahead of it are done already, for each is done ahead of the next.
	}
	return api.SOK
}

// check leaves a request, if there was an error.
func check(e api.Errno) {
	if e != api.OK {
		panic(e)
	}
}

// task tells what a request asks for.
func (b *Back) task(v *view.View, raw []byte) task {
	r, page, n, e := Unpack(raw)
	check(e)
	if page != noPage {
		r.Segs = b.paged(v, page, n)
	}
	all := run{first: r.Sector, segs: r.Segs}
	switch r.Op {
	case api.DRead:
		return reading{all}
	case api.DWrite:
		return writing{all}
	}
	return barrier{all}
}

// paged tells the segments that stand in a page of the front's. They are read all at one time, for the front may write over them from then on.
func (b *Back) paged(v *view.View, page int, n int) []api.Segment {
	raw, e := b.grants.Pull(v, b.back, api.End{Grant: true, Dom: b.front, Ref: page}, segmentBytes*n)
	check(e)
	l, e := Segments(raw)
	check(e)
	return l
}

// mapped maps the pages of all segments and then goes over them, in order. However it ends, none stays mapped.
func (b *Back) mapped(v *view.View, l []api.Segment, write bool, use func(handle int, s api.Segment)) {
	var handles []int
	defer func() {
		for _, handle := range handles {
			b.grants.Unmap(b.back, handle)
		}
	}()
	for _, s := range l {
		handle, e := b.grants.Map(v, b.back, b.front, s.Ref, write)
		check(e)
		handles = append(handles, handle)
	}
	for i, s := range l {
		use(handles[i], s)
	}
}

// read lays the disk's sectors into the front's pages.
func (b *Back) read(v *view.View, r run) {
	sector := r.first
	b.mapped(v, r.segs, true, func(handle int, s api.Segment) {
		var l []byte
		for range sectorsOf(s) {
			one, e := b.disk.Read(sector)
			check(e)
			l = append(l, one...)
			sector++
		}
		check(b.grants.Write(b.back, handle, s.First*api.SectorBytes, l))
	})
}

// gather reads the front's pages, each segment's part at one time.
func (b *Back) gather(v *view.View, r run) []byte {
	var l []byte
	b.mapped(v, r.segs, false, func(handle int, s api.Segment) {
		part, e := b.grants.Read(v, b.back, handle, s.First*api.SectorBytes, sectorsOf(s)*api.SectorBytes)
		check(e)
		l = append(l, part...)
	})
	return l
}

// write lays bytes into the disk's sectors, from a first one on.
func (b *Back) write(first int, l []byte) {
	sector := first
	for one := range slices.Chunk(l, api.SectorBytes) {
		check(b.disk.Write(sector, one))
		sector++
	}
}

func sectorsOf(s api.Segment) int { return s.Last - s.First + 1 }
