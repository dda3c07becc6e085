package store_test

import (
	"testing"

	"tenement/api"
)

// P10.4: Begin

func TestBegin(t *testing.T) {
	b := makeBed(t)
	b.begin(0, 1, api.OK)
	b.begin(0, 2, api.OK)
	b.begin(0, 3, api.OK)
	b.end(0, 2, false, api.OK)
	b.begin(0, 2, api.OK)
	b.begin(0, 4, api.OK)
	b.end(0, 3, true, api.OK)
	b.end(0, 1, true, api.OK)
	b.begin(0, 1, api.OK)
	b.begin(0, 3, api.OK)
	b.begin(0, 5, api.OK)
	b.gen(0)
}

// No two open ones have one number, whose they may be.
func TestBeginOfMoreDomains(t *testing.T) {
	b := makeBed(t)
	b.begin(3, 1, api.OK)
	b.begin(1, 2, api.OK)
	b.begin(3, 3, api.OK)
	b.end(3, 2, true, api.ErrNone)
	b.end(1, 1, true, api.ErrNone)
	b.end(3, 1, true, api.OK)
	b.begin(7, 1, api.OK)
	b.end(3, 1, true, api.ErrNone)
	b.end(7, 1, true, api.OK)
	b.end(1, 2, true, api.OK)
}

func TestTooManyTransactions(t *testing.T) {
	b := makeBed(t)
	for dom := range api.MaxDoms {
		for n := range api.MaxTrans {
			b.begin(dom, dom*api.MaxTrans+n+1, api.OK)
		}
		b.begin(dom, 0, api.ErrFull)
	}
	b.begin(0, 0, api.ErrFull)
	b.end(3, 3*api.MaxTrans+5, false, api.OK)
	b.begin(2, 0, api.ErrFull)
	b.begin(3, 3*api.MaxTrans+5, api.OK)
	b.begin(3, 0, api.ErrFull)
	b.end(7, 64, true, api.OK)
	b.end(0, 1, true, api.OK)
	b.begin(7, 1, api.OK)
	b.begin(0, 64, api.OK)
}

// P10.4: End

func TestNoEnd(t *testing.T) {
	b := makeBed(t)
	b.begin(1, 1, api.OK)
	b.write(0, 0, "/a", "", api.OK)
	for _, commit := range []bool{true, false} {
		for _, tx := range append([]int{0, 2}, noTransactions...) {
			b.end(1, tx, commit, api.ErrNone)
		}
		b.end(0, 1, commit, api.ErrNone)
		b.end(2, 1, commit, api.ErrNone)
	}
	b.end(1, 1, true, api.OK)
	b.end(1, 1, true, api.ErrNone)
	b.end(1, 1, false, api.ErrNone)
}

func TestCommit(t *testing.T) {
	b := makeBed(t)
	b.write(0, 0, "/a/b", "1", api.OK)
	b.begin(0, 1, api.OK)
	before := picture(b.s)
	b.write(0, 1, "/a/b", "2", api.OK)
	b.write(0, 1, "/x/y", "3", api.OK)
	b.setPerms(0, 1, "/x", "b4,r5", api.OK)
	b.make(0, 1, "/z", api.OK)
	b.remove(0, 1, "/z", api.OK)
	b.same(before)
	// It sees what it did.
	b.read(0, 1, "/a/b", "2", api.OK)
	b.read(0, 1, "/x/y", "3", api.OK)
	b.read(0, 1, "/z", "", api.ErrNone)
	b.perms(0, 1, "/x", "b4,r5", api.OK)
	b.list(0, 1, "/", api.OK, "a", "x")
	// Nobody else does.
	b.list(0, 0, "/", api.OK, "a")
	b.read(0, 0, "/x", "", api.ErrNone)
	b.begin(0, 2, api.OK)
	b.read(0, 2, "/x", "", api.ErrNone)
	b.read(0, 2, "/a/b", "1", api.OK)
	b.end(0, 1, true, api.OK)
	b.nodes("/", "/a", "/a/b", "/x", "/x/y")
	b.read(0, 0, "/a/b", "2", api.OK)
	b.perms(4, 0, "/x", "b4,r5", api.OK)
	b.gen(2)
	b.read(0, 1, "/a", "", api.ErrNone)
	b.list(0, 2, "/", api.OK, "a") // as it was when it began
}

func TestAbort(t *testing.T) {
	b := makeBed(t)
	b.write(0, 0, "/a/b", "1", api.OK)
	b.watch(0, "/", "t", api.OK)
	b.begin(0, 1, api.OK)
	before := picture(b.s)
	b.write(0, 1, "/a/b", "2", api.OK)
	b.setPerms(0, 1, "/a/b", "b1", api.OK)
	b.remove(0, 1, "/a", api.OK)
	b.write(0, 1, "/", "3", api.OK)
	b.end(0, 1, false, api.OK)
	b.same(before)
	b.write(0, 1, "/a/b", "2", api.ErrNone)
	// Also where it could not be committed.
	b.begin(0, 1, api.OK)
	b.write(0, 1, "/x", "", api.OK)
	b.write(0, 0, "/a/b", "1", api.OK)
	b.end(0, 1, false, api.OK)
	b.nodes("/", "/a", "/a/b")
}

// Each direct call that changes something, and each commit, makes the others that have changes come too late.
func TestAgain(t *testing.T) {
	for _, c := range []struct {
		name string
		do   func(b *bed)
		e    api.Errno
	}{
		{"nothing", func(*bed) {}, api.OK},
		{"a write elsewhere", func(b *bed) { b.write(0, 0, "/y", "", api.OK) }, api.ErrAgain},
		{"a write of the same", func(b *bed) { b.write(0, 0, "/a", "1", api.OK) }, api.ErrAgain},
		{"a make", func(b *bed) { b.make(0, 0, "/y/z", api.OK) }, api.ErrAgain},
		{"a make of what is there", func(b *bed) { b.make(0, 0, "/a", api.OK) }, api.OK},
		{"a remove", func(b *bed) { b.remove(0, 0, "/a", api.OK) }, api.ErrAgain},
		{"the same entries", func(b *bed) { b.setPerms(0, 0, "/a", "n0", api.OK) }, api.ErrAgain},
		{"refusals", func(b *bed) {
			b.write(1, 0, "/a", "", api.ErrPerm)
			b.remove(0, 0, "/y", api.ErrNone)
			b.setPerms(1, 0, "/a", "b1", api.ErrPerm)
		}, api.OK},
		{"reads", func(b *bed) {
			b.read(0, 0, "/a", "1", api.OK)
			b.list(0, 0, "/", api.OK, "a")
			b.watch(0, "/", "t", api.OK)
		}, api.OK},
		{"a commit", func(b *bed) {
			b.begin(0, 2, api.OK)
			b.write(0, 2, "/y", "", api.OK)
			b.end(0, 2, true, api.OK)
		}, api.ErrAgain},
		{"a commit of no changes", func(b *bed) {
			b.begin(0, 2, api.OK)
			b.make(0, 2, "/a", api.OK)
			b.write(1, 2, "/a", "", api.ErrNone)
			b.end(0, 2, true, api.OK)
		}, api.OK},
		{"an abort", func(b *bed) {
			b.begin(0, 2, api.OK)
			b.write(0, 2, "/y", "", api.OK)
			b.end(0, 2, false, api.OK)
		}, api.OK},
		{"one that is too late itself", func(b *bed) {
			b.begin(0, 2, api.OK)
			b.write(0, 2, "/y", "", api.OK)
			b.write(0, 0, "/y", "", api.OK)
			b.end(0, 2, true, api.ErrAgain)
		}, api.ErrAgain},
	} {
		for _, early := range []bool{false, true} {
			b := makeBed(t)
			b.write(0, 0, "/a", "1", api.OK)
			b.begin(0, 1, api.OK)
			if early {
				b.write(0, 1, "/x", "", api.OK)
			}
			c.do(b)
			if !early {
				b.write(0, 1, "/x", "", api.OK)
			}
			before := picture(b.s)
			if e := b.s.End(0, 1, true); e != c.e {
				t.Errorf("behind %s: End: %v, not %v", c.name, e, c.e)
			}
			if c.e == api.ErrAgain {
				b.same(before)
			} else {
				b.read(0, 0, "/x", "", api.OK)
			}
			b.read(0, 1, "/x", "", api.ErrNone)
			b.end(0, 1, true, api.ErrNone) // it is open no more, also behind ErrAgain
			b.begin(0, 1, api.OK)
		}
	}
}

// One that has changed nothing ends well, whatever was done meanwhile.
func TestEndWithoutChanges(t *testing.T) {
	b := makeBed(t)
	b.write(0, 0, "/a", "1", api.OK)
	b.begin(0, 1, api.OK)
	b.read(0, 1, "/a", "1", api.OK)
	b.make(0, 1, "/a", api.OK)
	b.remove(0, 1, "/b", api.ErrNone)
	b.write(0, 1, "/b", of(65, "x"), api.ErrLong)
	b.write(0, 0, "/a", "2", api.OK)
	b.read(0, 1, "/a", "1", api.OK)
	before := picture(b.s)
	b.end(0, 1, true, api.OK)
	b.same(before)
	b.read(0, 0, "/a", "2", api.OK)
}

// What an aborted one or a late one did is not seen by those that begin behind it.
func TestTreesAreApart(t *testing.T) {
	b := makeBed(t)
	b.write(0, 0, "/a/b", "1", api.OK)
	for range 5 {
		b.begin(0, 1, api.OK)
		b.begin(0, 2, api.OK)
		b.write(0, 1, "/a/b", "2", api.OK)
		b.write(0, 2, "/a/b", "3", api.OK)
		b.setPerms(0, 1, "/a", "n5", api.OK)
		b.remove(0, 1, "/a/b", api.OK)
		b.write(0, 2, "/x", "", api.OK)
		b.read(0, 2, "/a/b", "3", api.OK)
		b.perms(0, 2, "/a", "n0", api.OK)
		b.list(0, 1, "/", api.OK, "a")
		b.read(0, 0, "/a/b", "1", api.OK)
		b.write(0, 0, "/a", "", api.OK)
		b.end(0, 1, true, api.ErrAgain)
		b.end(0, 2, true, api.ErrAgain)
		b.read(0, 0, "/a/b", "1", api.OK)
		b.nodes("/", "/a", "/a/b")
	}
	// Behind a commit direct calls go on with its tree, and those that are open keep theirs.
	b.begin(0, 1, api.OK)
	b.begin(0, 2, api.OK)
	b.write(0, 1, "/y", "4", api.OK)
	b.end(0, 1, true, api.OK)
	b.write(0, 0, "/y", "5", api.OK)
	b.remove(0, 0, "/a", api.OK)
	b.read(0, 2, "/a/b", "1", api.OK)
	b.read(0, 2, "/y", "", api.ErrNone)
	b.begin(0, 1, api.OK)
	b.read(0, 1, "/y", "5", api.OK)
	b.read(0, 1, "/a", "", api.ErrNone)
}

// In a transaction a domain may no more than elsewhere, by its own tree.
func TestPermsInATransaction(t *testing.T) {
	b := makeBed(t)
	b.make(0, 0, "/a/b", api.OK)
	b.setPerms(0, 0, "/a", "n0,b1", api.OK)
	b.begin(1, 1, api.OK)
	b.write(1, 1, "/", "", api.ErrPerm)
	b.write(1, 1, "/a/b", "", api.ErrPerm)
	b.remove(1, 1, "/a/b", api.ErrPerm)
	b.setPerms(1, 1, "/a", "n1", api.ErrPerm)
	b.list(1, 1, "/a/b", api.ErrPerm)
	b.write(1, 1, "/a/c/d", "7", api.OK)
	b.perms(1, 1, "/a/c/d", "n1", api.OK)
	b.setPerms(1, 1, "/a/c", "r1", api.OK)
	b.setPerms(0, 0, "/a", "n0", api.OK)
	b.list(1, 1, "/a", api.OK, "b", "c") // that was set outside
	b.list(1, 0, "/a", api.ErrPerm)
	b.end(1, 1, true, api.ErrAgain)
}

// P10.6: Drop

func TestDrop(t *testing.T) {
	b := makeBed(t)
	b.setPerms(0, 0, "/", "b0", api.OK)
	b.write(1, 0, "/one", "1", api.OK)
	b.write(2, 0, "/two", "2", api.OK)
	for dom := 1; dom <= 2; dom++ {
		b.watch(dom, "/", "t", api.OK)
		b.watch(dom, "/one", "u", api.OK)
		b.begin(dom, 2*dom-1, api.OK)
		b.begin(dom, 2*dom, api.OK)
		b.make(dom, 2*dom, "/new"+of(dom, "x"), api.OK)
	}
	b.setPerms(1, 0, "/one", "r1", api.OK)
	gen := b.s.Gen()
	b.want("Drop", b.s.Drop(1), api.OK)
	b.gen(gen)
	b.nodes("/", "/one", "/two")
	b.perms(1, 0, "/one", "r1", api.OK)
	if l := b.s.Waiting(1); len(l) != 0 {
		t.Errorf("it still waits for %v", l)
	}
	b.told(1)
	b.told(2, "/one t", "/one u")
	b.end(1, 1, true, api.ErrNone)
	b.end(1, 2, true, api.ErrNone)
	b.write(1, 0, "/one", "3", api.OK)
	b.told(1)
	b.told(2, "/one t", "/one u")
	b.unwatch(1, "/", "t", api.ErrNone)
	b.unwatch(1, "/one", "u", api.ErrNone)
	// All is there to be taken anew.
	b.begin(1, 1, api.OK)
	b.begin(1, 2, api.OK)
	b.begin(1, 5, api.OK)
	b.read(1, 2, "/newx", "", api.ErrNone)
	b.read(2, 4, "/newxx", "", api.OK)
	for range api.MaxTrans - 3 {
		b.s.Begin(1)
	}
	b.begin(1, 0, api.ErrFull)
	for n := range api.MaxWatches {
		b.watch(1, nodeOf(n), "t", api.OK)
	}
	b.watch(1, "/", "t", api.ErrFull)
	b.want("Drop", b.s.Drop(1), api.OK)
	b.want("Drop of nothing", b.s.Drop(1), api.OK)
	b.want("Drop of nothing", b.s.Drop(7), api.OK)
	b.unwatch(2, "/", "t", api.OK)
	b.unwatch(2, "/one", "u", api.OK)
	b.end(2, 3, true, api.OK)
}

// A domain that is dropped and built anew is told again, of what comes then.
func TestWatchBehindDrop(t *testing.T) {
	b := makeBed(t)
	b.watch(0, "/", "t", api.OK)
	b.write(0, 0, "/a", "", api.OK)
	b.want("Drop", b.s.Drop(0), api.OK)
	b.write(0, 0, "/b", "", api.OK)
	b.watch(0, "/", "t", api.OK)
	b.write(0, 0, "/a", "", api.OK)
	b.write(0, 0, "/a", "", api.OK)
	b.told(0, "/a t")
}
