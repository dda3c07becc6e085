package store_test

import (
	"slices"
	"strconv"
	"testing"

	"tenement/api"
	"tenement/path"
)

// P10.5: Watch, Unwatch

func TestWatch(t *testing.T) {
	b := makeBed(t)
	b.watch(0, "/a", "t", api.OK)
	b.watch(0, "/a", "t", api.ErrTwice)
	b.watch(0, "/a", "u", api.OK)
	b.watch(0, "/b", "t", api.OK)
	b.watch(1, "/a", "t", api.OK)
	b.watch(0, "/a", "", api.OK)
	b.watch(0, "/a", "", api.ErrTwice)
	b.watch(0, "/", "\x00\xff\n", api.OK)
	b.told(0) // a watch alone tells nothing
	b.write(0, 0, "/a", "", api.OK)
	b.told(0, "/a t", "/a u", "/a ", "/a \x00\xff\n")
	b.told(1)
}

func TestLongToken(t *testing.T) {
	b := makeBed(t)
	long := of(api.MaxValue, "t")
	b.watch(0, "/", long, api.OK)
	for _, token := range []string{long + "t", long + "tt", of(1<<16, "t")} {
		b.watch(0, "/", token, api.ErrLong)
		b.watch(0, "/a", token, api.ErrLong)
		b.unwatch(0, "/", token, api.ErrNone)
	}
	b.watch(0, "/", of(api.MaxValue/2, "\u00e9"), api.OK)
	b.watch(0, "/", of(api.MaxValue/2, "\u00e9")+"t", api.ErrLong) // bytes count
	b.write(0, 0, "/a", "", api.OK)
	b.told(0, "/a "+long, "/a "+of(api.MaxValue/2, "\u00e9"))
	for n := range api.MaxWatches - 2 {
		b.watch(0, nodeOf(n), "t", api.OK)
	}
	b.watch(0, "/a", long+"t", api.ErrLong) // ahead of ErrFull
}

func TestTooManyWatches(t *testing.T) {
	b := makeBed(t)
	for dom := range api.MaxDoms {
		for n := range api.MaxWatches {
			b.watch(dom, "/", strconv.Itoa(n), api.OK)
		}
		b.watch(dom, "/", "more", api.ErrFull)
		b.watch(dom, "/a", "0", api.ErrFull)
		b.watch(dom, "/", "0", api.ErrTwice) // ahead of ErrFull
	}
	b.unwatch(3, "/", "7", api.OK)
	b.watch(2, "/", "more", api.ErrFull)
	b.watch(3, "/", "more", api.OK)
	b.watch(3, "/", "yet more", api.ErrFull)
	b.write(0, 0, "/a", "", api.OK)
	b.setPerms(0, 0, "/a", "r0", api.OK)
	want := []string{}
	for n := range api.MaxWatches {
		if n != 7 {
			want = append(want, "/a "+strconv.Itoa(n))
		}
	}
	b.told(3, append(want, "/a more")...) // it is the last one
}

func TestUnwatch(t *testing.T) {
	b := makeBed(t)
	b.watch(0, "/a", "t", api.OK)
	b.watch(0, "/a", "u", api.OK)
	b.watch(0, "/b", "t", api.OK)
	b.watch(1, "/a", "t", api.OK)
	b.unwatch(0, "/", "t", api.ErrNone)
	b.unwatch(0, "/a", "", api.ErrNone)
	b.unwatch(0, "/b", "u", api.ErrNone)
	b.unwatch(1, "/a", "u", api.ErrNone)
	b.unwatch(2, "/a", "t", api.ErrNone)
	b.write(0, 0, "/a", "", api.OK)
	b.unwatch(0, "/a", "t", api.OK)
	b.unwatch(0, "/a", "t", api.ErrNone)
	b.told(0, "/a t", "/a u") // what waits stays
	b.setPerms(0, 0, "/a", "r0", api.OK)
	b.told(0, "/a u")
	b.told(1, "/a t")
	b.watch(0, "/a", "t", api.OK) // it is the last one now
	b.write(0, 0, "/a", "", api.OK)
	b.write(0, 0, "/b", "", api.OK)
	b.told(0, "/a u", "/a t", "/b t")
}

// P10.5: which watches a change is under

func TestUnderAWatch(t *testing.T) {
	b := makeBed(t)
	b.setPerms(0, 0, "/", "r0", api.OK)
	watched := []string{"/", "/a", "/a/b", "/a/b/c", "/ab", "/a-b", "/b"}
	for _, name := range watched {
		b.watch(1, name, "t"+name, api.OK)
	}
	for _, name := range []string{"/a/b/c/d/e", "/a/b/c", "/a/b", "/a", "/ab/c", "/a-b/b", "/c", "/b/a", "/"} {
		b.make(0, 0, name, api.OK)
		b.forget(1)
		b.write(0, 0, name, "7", api.OK)
		want := []string{}
		for _, w := range watched {
			if path.Under(w, name) {
				want = append(want, name+" t"+w)
			}
		}
		b.told(1, want...)
	}
}

// forget lets nothing wait for a domain any more.
func (b *bed) forget(dom int) {
	for range b.s.Waiting(dom) {
		b.s.Next(dom)
	}
}

// One change is told to each watch, one watch of each change, in their orders.
func TestOrderOfEvents(t *testing.T) {
	b := makeBed(t)
	b.watch(0, "/a/b", "3", api.OK)
	b.watch(0, "/", "1", api.OK)
	b.watch(0, "/a", "2", api.OK)
	b.make(0, 0, "/a/b/c", api.OK) // the upper ones first
	b.told(0, "/a 1", "/a 2", "/a/b 3", "/a/b 1", "/a/b 2", "/a/b/c 3", "/a/b/c 1", "/a/b/c 2")
	b.unwatch(0, "/a/b", "3", api.OK)
	b.unwatch(0, "/a", "2", api.OK)
	for _, name := range []string{"/a/b/d", "/a/b-", "/a/a/z", "/a/b.c/x", "/a/B"} {
		b.make(0, 0, name, api.OK)
	}
	b.told(0, "/a/b/d 1", "/a/b- 1", "/a/a 1", "/a/a/z 1", "/a/b.c 1", "/a/b.c/x 1", "/a/B 1")
	b.remove(0, 0, "/a", api.OK) // it first, then what is below, names rising
	b.told(0, "/a 1", "/a/B 1", "/a/a 1", "/a/a/z 1", "/a/b 1", "/a/b/c 1", "/a/b/d 1", "/a/b- 1", "/a/b.c 1", "/a/b.c/x 1")
}

// One that waits already is not laid behind the others again, whichever watch it is of; when it has been told it is.
func TestEachEventWaitsOnce(t *testing.T) {
	b := makeBed(t)
	b.setPerms(0, 0, "/", "r0", api.OK)
	b.watch(1, "/a", "t", api.OK)
	b.watch(1, "/a/b", "t", api.OK)
	b.watch(1, "/a/b", "u", api.OK)
	b.watch(2, "/", "t", api.OK)
	b.write(0, 0, "/a/b", "1", api.OK)
	b.write(0, 0, "/a/b", "2", api.OK)
	b.write(0, 0, "/a", "3", api.OK)
	b.setPerms(0, 0, "/a/b", "r0", api.OK)
	want := []api.Event{{Path: "/a", Token: "t"}, {Path: "/a/b", Token: "t"}, {Path: "/a/b", Token: "u"}}
	if l := b.s.Waiting(1); !slices.Equal(l, want) {
		t.Errorf("Waiting(1) = %v, not %v", l, want)
	}
	if e, none := b.s.Next(1); e != want[0] || none != api.OK {
		t.Errorf("Next(1) = %v, %v", e, none)
	}
	b.write(0, 0, "/a", "", api.OK) // the first waits no more, so it may again
	b.write(0, 0, "/a/b", "", api.OK)
	b.told(1, "/a/b t", "/a/b u", "/a t")
	b.told(2, "/a t", "/a/b t")
	b.told(1)
	b.write(0, 0, "/a/b", "", api.OK)
	b.told(1, "/a/b t", "/a/b u")
}

func TestNext(t *testing.T) {
	b := makeBed(t)
	for dom := range api.MaxDoms {
		b.told(dom)
		if l := b.s.Waiting(dom); len(l) != 0 {
			t.Errorf("Waiting(%d) = %v", dom, l)
		}
	}
	b.watch(0, "/", "t", api.OK)
	for n := range 1000 {
		b.write(0, 0, nodeOf(n%100), "", api.OK)
		if n%3 != 0 {
			continue
		}
		l := b.s.Waiting(0)
		if e, none := b.s.Next(0); none != api.OK || e != l[0] {
			t.Fatalf("Next = %v, %v, not %v", e, none, l[0])
		}
		if is := b.s.Waiting(0); !slices.Equal(is, l[1:]) {
			t.Fatalf("Waiting = %v, not %v", is, l[1:])
		}
	}
}

// P10.5: who may know

// Of a node that is there it is asked who may read it now.
func TestWhoIsTold(t *testing.T) {
	b := makeBed(t)
	for dom := range api.MaxDoms {
		b.watch(dom, "/", "t", api.OK)
	}
	b.make(0, 0, "/a", api.OK)
	for dom := range api.MaxDoms {
		if dom == 0 {
			b.told(dom, "/a t")
		} else {
			b.told(dom)
		}
	}
	for _, l := range []string{"n0", "r0", "n3", "n0,r1,w2", "b0,n1,w2,r3", "w5,b4"} {
		b.setPerms(0, 0, "/a", l, api.OK)
		for _, step := range []func(){
			func() {},
			func() { b.write(0, 0, "/a", "", api.OK) },
			func() { b.remove(0, 0, "/a", api.OK) }, // by the entries that it had last
		} {
			step()
			for dom := range api.MaxDoms {
				if may, _ := path.May(perms(l), dom); may {
					b.told(dom, "/a t")
				} else {
					b.told(dom)
				}
			}
		}
		b.make(0, 0, "/a", api.OK)
		b.told(0, "/a t")
	}
}

// What changed is told by the entries behind the call: one that may read no more is not told so, one that may now is.
func TestSetPermsIsToldByTheNewOnes(t *testing.T) {
	b := makeBed(t)
	b.make(0, 0, "/a", api.OK)
	b.watch(1, "/", "t", api.OK)
	b.setPerms(0, 0, "/a", "n0,r1", api.OK)
	b.told(1, "/a t")
	b.setPerms(0, 0, "/a", "n0,w1", api.OK)
	b.told(1)
	// What waits stays, also where the domain may read it no more.
	b.setPerms(0, 0, "/a", "r0", api.OK)
	b.setPerms(0, 0, "/a", "n0", api.OK)
	b.told(1, "/a t")
}

// Each node that goes is told by its own entries, not by those of what it was below.
func TestRemoveIsToldNodeByNode(t *testing.T) {
	b := makeBed(t)
	for _, name := range []string{"/a/b/c", "/a/d"} {
		b.make(0, 0, name, api.OK)
	}
	b.setPerms(0, 0, "/a/b", "n0,r1", api.OK)
	b.setPerms(0, 0, "/a/d", "r0,n1", api.OK)
	b.setPerms(0, 0, "/a/b/c", "n1", api.OK)
	for dom := 1; dom < 3; dom++ {
		b.watch(dom, "/a", "t", api.OK)
	}
	b.remove(0, 0, "/a", api.OK)
	b.told(1, "/a/b t", "/a/b/c t")
	b.told(2, "/a/d t")
}

func TestNothingIsToldAheadOfTheCommit(t *testing.T) {
	b := makeBed(t)
	b.make(0, 0, "/z", api.OK)
	b.watch(0, "/", "t", api.OK)
	b.begin(0, 1, api.OK)
	b.write(0, 1, "/b/c", "", api.OK)
	b.write(0, 1, "/a", "", api.OK)
	b.setPerms(0, 1, "/z", "n0", api.OK)
	b.write(0, 1, "/b", "", api.OK)
	b.told(0)
	b.watch(0, "/b", "u", api.OK) // made ahead of the commit: it is told
	b.unwatch(0, "/", "t", api.OK)
	b.watch(0, "/", "v", api.OK)
	b.end(0, 1, true, api.OK)
	b.told(0, "/b u", "/b v", "/b/c u", "/b/c v", "/a v", "/z v")
	b.begin(0, 1, api.OK)
	b.write(0, 1, "/a", "", api.OK)
	b.end(0, 1, false, api.OK)
	b.told(0)
	b.begin(0, 1, api.OK)
	b.write(0, 1, "/a", "", api.OK)
	b.write(0, 0, "/z", "", api.OK)
	b.end(0, 1, true, api.ErrAgain)
	b.told(0, "/z v")
}

// A commit tells by what is there behind all its changes, whatever came between, and of what is gone by what it had last.
func TestWhoIsToldOfACommit(t *testing.T) {
	for _, c := range []struct {
		name string
		do   func(b *bed)
		told []string // domain 1
	}{
		{"a secret one made", func(b *bed) { b.make(0, 1, "/s/x", api.OK) }, nil},
		{"an open one written", func(b *bed) { b.write(0, 1, "/o", "", api.OK) }, []string{"/o t"}},
		{"a secret one opened for a moment", func(b *bed) {
			b.setPerms(0, 1, "/s", "r0", api.OK)
			b.write(0, 1, "/s", "1", api.OK)
			b.setPerms(0, 1, "/s", "n0", api.OK)
		}, nil},
		{"an open one shut for a moment", func(b *bed) {
			b.setPerms(0, 1, "/o", "n0", api.OK)
			b.write(0, 1, "/o", "1", api.OK)
			b.setPerms(0, 1, "/o", "n0,r1", api.OK)
		}, []string{"/o t"}},
		{"an open one written, then shut", func(b *bed) {
			b.write(0, 1, "/o", "1", api.OK)
			b.setPerms(0, 1, "/o", "n0", api.OK)
		}, nil},
		{"a secret one written, then opened", func(b *bed) {
			b.write(0, 1, "/s", "1", api.OK)
			b.setPerms(0, 1, "/s", "r0", api.OK)
		}, []string{"/s t"}},
		{"an open one removed", func(b *bed) { b.remove(0, 1, "/o", api.OK) }, []string{"/o t"}},
		{"a secret one removed", func(b *bed) { b.remove(0, 1, "/s", api.OK) }, nil},
		{"an open one shut, then removed", func(b *bed) {
			b.setPerms(0, 1, "/o", "n0", api.OK)
			b.remove(0, 1, "/o", api.OK)
		}, nil},
		{"a secret one opened, then removed", func(b *bed) {
			b.setPerms(0, 1, "/s", "r0", api.OK)
			b.remove(0, 1, "/s", api.OK)
		}, []string{"/s t"}},
		{"an open one removed, and made again as a secret one", func(b *bed) {
			b.remove(0, 1, "/o", api.OK)
			b.make(0, 1, "/o", api.OK)
		}, nil},
		{"a secret one removed, and made again as an open one", func(b *bed) {
			b.remove(0, 1, "/s", api.OK)
			b.make(0, 1, "/s", api.OK)
			b.setPerms(0, 1, "/s", "r0", api.OK)
		}, []string{"/s t"}},
		{"an open one removed, made secret, removed", func(b *bed) {
			b.remove(0, 1, "/o", api.OK)
			b.write(0, 1, "/o", "", api.OK)
			b.remove(0, 1, "/o", api.OK)
		}, nil},
		{"a secret one removed, made, opened, removed", func(b *bed) {
			b.remove(0, 1, "/s", api.OK)
			b.make(0, 1, "/s", api.OK)
			b.setPerms(0, 1, "/s", "r0", api.OK)
			b.remove(0, 1, "/s", api.OK)
		}, []string{"/s t"}},
		{"a new one made, opened, removed", func(b *bed) {
			b.make(0, 1, "/n", api.OK)
			b.setPerms(0, 1, "/n", "r0", api.OK)
			b.remove(0, 1, "/n", api.OK)
		}, []string{"/n t"}},
		{"a new one made, removed", func(b *bed) {
			b.make(0, 1, "/n/m", api.OK)
			b.remove(0, 1, "/n", api.OK)
		}, nil},
		{"a new one opened, shut, removed", func(b *bed) {
			b.make(0, 1, "/n", api.OK)
			b.setPerms(0, 1, "/n", "r0", api.OK)
			b.setPerms(0, 1, "/n", "n0", api.OK)
			b.remove(0, 1, "/n", api.OK)
		}, nil},
		{"one below an open one made and removed with it", func(b *bed) {
			b.setPerms(0, 1, "/o", "r0", api.OK)
			b.make(0, 1, "/o/p", api.OK)
			b.setPerms(0, 1, "/o", "n0", api.OK)
			b.remove(0, 1, "/o", api.OK)
		}, []string{"/o/p t"}},
		{"one removed twice, once below another", func(b *bed) {
			b.make(0, 1, "/s/p", api.OK)
			b.remove(0, 1, "/s/p", api.OK)
			b.setPerms(0, 1, "/s", "r0", api.OK)
			b.make(0, 1, "/s/p", api.OK)
			b.setPerms(0, 1, "/s", "n0", api.OK)
			b.remove(0, 1, "/s", api.OK)
		}, []string{"/s/p t"}},
	} {
		b := makeBed(t)
		b.make(0, 0, "/s", api.OK)
		b.make(0, 0, "/o", api.OK)
		b.setPerms(0, 0, "/o", "n0,r1", api.OK)
		b.watch(1, "/", "t", api.OK)
		b.begin(0, 1, api.OK)
		c.do(b)
		b.end(0, 1, true, api.OK)
		is := []string{}
		for _, e := range b.s.Waiting(1) {
			is = append(is, e.Path+" "+e.Token)
		}
		if !slices.Equal(is, c.told) {
			t.Errorf("%s: told %q, not %q", c.name, is, c.told)
		}
	}
}

// The first change of a node says where its event comes.
func TestOrderOfACommit(t *testing.T) {
	b := makeBed(t)
	b.watch(0, "/", "t", api.OK)
	b.begin(0, 1, api.OK)
	b.make(0, 1, "/b", api.OK)
	b.make(0, 1, "/a/c", api.OK)
	b.write(0, 1, "/b", "", api.OK)
	b.make(0, 1, "/c", api.OK)
	b.remove(0, 1, "/a", api.OK)
	b.make(0, 1, "/a", api.OK)
	b.remove(0, 1, "/b", api.OK)
	b.end(0, 1, true, api.OK)
	b.told(0, "/b t", "/a t", "/a/c t", "/c t")
	b.nodes("/", "/a", "/c")
}

// A guest that never asks for its events doesn't keep others from theirs, nor make the store slow.
func TestManyEventsWait(t *testing.T) {
	b := makeBed(t)
	b.make(0, 0, "/g", api.OK)
	b.setPerms(0, 0, "/g", "b1", api.OK)
	for n := range api.MaxWatches {
		b.watch(1, "/", strconv.Itoa(n), api.OK)
	}
	const nodes = 5000
	for n := range nodes {
		name := "/g" + nodeOf(n)
		b.write(1, 0, name, "", api.OK)
		b.remove(1, 0, name, api.OK)
	}
	l := b.s.Waiting(1)
	if len(l) != nodes*api.MaxWatches {
		t.Fatalf("%d events wait", len(l))
	}
	for n, e := range l {
		if e != (api.Event{Path: "/g" + nodeOf(n/api.MaxWatches), Token: strconv.Itoa(n % api.MaxWatches)}) {
			t.Fatalf("event %d is %v", n, e)
		}
	}
}
