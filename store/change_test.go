package store_test

import (
	"strconv"
	"testing"

	"tenement/api"
	"tenement/path"
)

// P10.2: Write

func TestWrite(t *testing.T) {
	b := makeBed(t)
	b.write(0, 0, "/a", "1", api.OK)
	b.read(0, 0, "/a", "1", api.OK)
	b.gen(1)
	b.write(0, 0, "/a", "22", api.OK)
	b.read(0, 0, "/a", "22", api.OK)
	b.gen(2)
	b.write(0, 0, "/a", "22", api.OK) // a change too
	b.gen(3)
	b.write(0, 0, "/a", "", api.OK)
	b.read(0, 0, "/a", "", api.OK)
	b.gen(4)
	b.write(0, 0, "/", "root", api.OK)
	b.read(0, 0, "/", "root", api.OK)
	b.gen(5)
	b.want("Write of nil", b.s.Write(0, 0, "/", nil), api.OK)
	b.read(0, 0, "/", "", api.OK)
	b.nodes("/", "/a")
	b.gen(6)
}

// One call that makes many nodes changes the generation once.
func TestWriteMakesTheWay(t *testing.T) {
	b := makeBed(t)
	b.write(0, 0, "/x", "7", api.OK)
	b.write(0, 0, deepest, "8", api.OK)
	b.gen(2)
	b.nodes("/", "/a", "/a/b", "/a/b/c", "/a/b/c/d", "/a/b/c/d/e", "/a/b/c/d/e/f", "/a/b/c/d/e/f/g", deepest, "/x")
	b.read(0, 0, "/a/b/c/d/e/f/g", "", api.OK)
	b.read(0, 0, "/a", "", api.OK)
	b.read(0, 0, deepest, "8", api.OK)
	b.write(0, 0, "/a/b/x/y", "9", api.OK)
	b.read(0, 0, "/a/b/x", "", api.OK)
	b.read(0, 0, "/a/b/x/y", "9", api.OK)
	b.gen(3)
}

func TestWriteOfALongValue(t *testing.T) {
	b := makeBed(t)
	for n := range api.MaxValue + 1 {
		b.write(0, 0, "/a", of(n, "v"), api.OK)
		b.read(0, 0, "/a", of(n, "v"), api.OK)
	}
	before := picture(b.s)
	b.begin(1, 1, api.OK)
	for _, n := range []int{api.MaxValue + 1, api.MaxValue + 2, 1 << 16} {
		for _, name := range []string{"/", "/a", "/a/b", "/b"} {
			b.write(0, 0, name, of(n, "v"), api.ErrLong)
			b.write(1, 0, name, of(n, "v"), api.ErrLong) // ahead of ErrPerm
			b.write(1, 1, name, of(n, "v"), api.ErrLong)
		}
	}
	b.same(before)
}

// What a domain may write is what path.May says of the node's own entries.
func TestWhoMayWrite(t *testing.T) {
	for _, l := range []string{"n0", "r0", "w0", "b0", "n1", "w1", "n0,r1", "n0,w1", "b0,r1", "b0,w1,r2,n3", "n7,b6,r5,w4,n3"} {
		for dom := range api.MaxDoms {
			b := makeBed(t)
			b.write(0, 0, "/a/b", "7", api.OK)
			b.setPerms(0, 0, "/a/b", l, api.OK)
			before := picture(b.s)
			e := api.ErrPerm
			if _, may := path.May(perms(l), dom); may {
				e = api.OK
			}
			b.make(dom, 0, "/a/b", e)
			b.same(before)
			b.write(dom, 0, "/a/b", "8", e)
			b.write(dom, 0, "/a/b/c", "9", e)
			b.make(dom, 0, "/a/b/d/e", e)
			if e == api.OK {
				b.read(0, 0, "/a/b", "8", api.OK)
				b.nodes("/", "/a", "/a/b", "/a/b/c", "/a/b/d", "/a/b/d/e")
				b.gen(5)
				before = picture(b.s)
			}
			b.same(before)
			b.remove(dom, 0, "/a/b", e)
		}
	}
}

// The nearest node above that is there is asked, no other one.
func TestWriteAsksTheNearestAbove(t *testing.T) {
	b := makeBed(t)
	b.make(0, 0, "/a/b/c", api.OK)
	b.setPerms(0, 0, "/a", "n0,w1", api.OK)
	b.write(1, 0, "/a/b/x", "", api.ErrPerm)
	b.write(1, 0, "/a/b/c/x/y", "", api.ErrPerm)
	b.write(1, 0, "/a/x/y/z", "7", api.OK)
	b.read(1, 0, "/a/x/y/z", "7", api.OK)
	b.setPerms(0, 0, "/a/b/c", "n0,w2", api.OK)
	b.write(2, 0, "/a/b/c/d/e", "", api.OK)
	b.write(2, 0, "/a/b/d", "", api.ErrPerm)
	b.write(1, 0, "/a/b/c/d/e", "", api.ErrPerm)
	b.write(1, 0, "/b", "", api.ErrPerm)
	b.write(0, 0, "/a/b/c/d/f", "", api.OK)
}

func TestPermsOfOneThatIsMade(t *testing.T) {
	for _, c := range []struct {
		above string
		dom   int
		made  string
	}{
		{"n0", 0, "n0"},
		{"r0", 0, "r0"},
		{"w0", 3, "w3"},
		{"b0", 7, "b7"},
		{"r0,n1,w2,b3", 0, "r0,n1,w2,b3"},
		{"n0,w1", 1, "n1"}, // what the first entry says, not what its own did
		{"b0,w1,r2", 1, "b1,r2"},
		{"b0,r1,w2,n3", 2, "b2,r1,n3"},
		{"w0,r1,r2,b3", 3, "w3,r1,r2"},
		{"w0,r1,r2,b3", 4, "w4,r1,r2,b3"},
		{"r1", 1, "r1"},
		{"r1,b2", 2, "r2"}, // the owner of the one above has no entry any more
		{"n1,b2,r0", 0, "n0,b2"},
		{"n1,b2,r3", 0, "n0,b2,r3"},
		{"b7,n6,r5,w4,b3,n2,r1,w0", 7, "b7,n6,r5,w4,b3,n2,r1,w0"},
		{"b7,n6,r5,w4,b3,n2,r1,w0", 4, "b4,n6,r5,b3,n2,r1,w0"},
		{"b7,n6,r5,w4,b3,n2,r1", 0, "b0,n6,r5,w4,b3,n2,r1"},
		{"b7,n6,r5,w4,b3,n2,r1,b0", 0, "b0,n6,r5,w4,b3,n2,r1"},
	} {
		b := makeBed(t)
		b.make(0, 0, "/a", api.OK)
		b.setPerms(0, 0, "/a", c.above, api.OK)
		b.write(c.dom, 0, "/a/b", "", api.OK)
		b.make(c.dom, 0, "/a/c", api.OK)
		b.write(c.dom, 0, "/a/d/e/f", "", api.OK)
		for _, name := range []string{"/a/b", "/a/c", "/a/d", "/a/d/e", "/a/d/e/f"} {
			b.perms(0, 0, name, c.made, api.OK)
		}
		b.perms(0, 0, "/a", c.above, api.OK)
	}
}

// The node right above says it, also where it was made by the same call; a node that was there keeps its own.
func TestPermsComeOfTheOneRightAbove(t *testing.T) {
	b := makeBed(t)
	b.make(0, 0, "/a/b", api.OK)
	b.setPerms(0, 0, "/a", "b0,r1", api.OK)
	b.setPerms(0, 0, "/a/b", "r0,w2", api.OK)
	b.write(2, 0, "/a/b/c/d", "", api.OK)
	b.perms(0, 0, "/a/b/c", "r2", api.OK)
	b.perms(0, 0, "/a/b/c/d", "r2", api.OK)
	b.write(2, 0, "/a/b", "7", api.OK)
	b.perms(0, 0, "/a/b", "r0,w2", api.OK)
	b.write(3, 0, "/a/x", "", api.OK)
	b.perms(0, 0, "/a/x", "b3,r1", api.OK)
}

// nodeOf is the path of the n-th of many nodes right below the root.
func nodeOf(n int) string { return "/n" + strconv.Itoa(n) }

// fill makes as many nodes as may be, but for some.
func (b *bed) fill(tx, but int) {
	b.t.Helper()
	for n := range api.MaxNodes - 1 - but {
		b.make(0, tx, nodeOf(n), api.OK)
	}
}

func TestFull(t *testing.T) {
	b := makeBed(t)
	b.fill(0, 3)
	b.setPerms(0, 0, "/n0", "b0", api.OK)
	before := picture(b.s)
	b.write(0, 0, "/a/b/c/d", "", api.ErrFull)
	b.make(0, 0, "/n7/b/c/d/e", api.ErrFull)
	b.write(1, 0, "/n0/b/c/d/e", "", api.ErrFull)
	b.write(1, 0, "/n1/b/c/d/e", "", api.ErrPerm) // that is named first
	b.same(before)
	b.write(0, 0, "/a/b/c", "7", api.OK)
	if n := len(b.s.Nodes()); n != api.MaxNodes {
		t.Errorf("%d nodes, not %d", n, api.MaxNodes)
	}
	before = picture(b.s)
	b.write(0, 0, "/x", "", api.ErrFull)
	b.make(0, 0, "/x", api.ErrFull)
	b.write(0, 0, "/a/b/c/d", "", api.ErrFull)
	b.write(1, 0, "/n0/b", "", api.ErrFull)
	b.write(1, 0, "/x", "", api.ErrPerm)
	b.make(0, 0, "/a/b", api.OK)
	b.same(before)
	b.write(0, 0, "/a/b", "8", api.OK) // that is there
	b.write(0, 0, "/", "9", api.OK)
	b.remove(0, 0, "/a/b", api.OK)
	b.make(0, 0, "/a/b/c/d", api.ErrFull)
	b.make(0, 0, "/a/b/c", api.OK)
	b.make(0, 0, "/x", api.ErrFull)
}

// A transaction's tree is as full as it is itself.
func TestFullInATransaction(t *testing.T) {
	b := makeBed(t)
	b.fill(0, 1)
	b.begin(0, 1, api.OK)
	b.make(0, 1, "/x/y", api.ErrFull)
	b.make(0, 1, "/x", api.OK)
	b.make(0, 1, "/y", api.ErrFull)
	b.make(0, 0, "/z", api.OK)
	b.make(0, 0, "/y", api.ErrFull)
	b.remove(0, 1, "/n7", api.OK)
	b.make(0, 1, "/y", api.OK)
	b.make(0, 0, "/y", api.ErrFull)
	b.end(0, 1, false, api.OK)
	b.begin(0, 1, api.OK)
	b.remove(0, 1, "/n7", api.OK)
	b.make(0, 1, "/y", api.OK)
	b.end(0, 1, true, api.OK)
	b.make(0, 0, "/n7", api.ErrFull)
	if n := len(b.s.Nodes()); n != api.MaxNodes {
		t.Errorf("%d nodes, not %d", n, api.MaxNodes)
	}
}

// P10.2: Make

func TestMake(t *testing.T) {
	b := makeBed(t)
	b.make(0, 0, "/a/b", api.OK)
	b.nodes("/", "/a", "/a/b")
	b.read(0, 0, "/a/b", "", api.OK)
	b.gen(1)
	b.write(0, 0, "/a/b", "7", api.OK)
	b.watch(0, "/", "t", api.OK)
	before := picture(b.s)
	b.make(0, 0, "/a/b", api.OK)
	b.make(0, 0, "/a", api.OK)
	b.make(0, 0, "/", api.OK)
	b.make(1, 0, "/a/b", api.ErrPerm)
	b.same(before)
	b.read(0, 0, "/a/b", "7", api.OK)
}

// P10.3: Remove

func TestRemove(t *testing.T) {
	b := makeBed(t)
	for _, name := range []string{"/a/b/c", "/a/b/d", "/a-b", "/a.b/c", "/ab", "/a/x", "/c"} {
		b.make(0, 0, name, api.OK)
	}
	b.gen(7)
	b.remove(0, 0, "/a/b", api.OK)
	b.nodes("/", "/a", "/a/x", "/a-b", "/a.b", "/a.b/c", "/ab", "/c")
	b.gen(8)
	b.remove(0, 0, "/a", api.OK)
	b.nodes("/", "/a-b", "/a.b", "/a.b/c", "/ab", "/c")
	b.remove(0, 0, "/a", api.ErrNone)
	b.remove(0, 0, "/a/x", api.ErrNone)
	b.remove(0, 0, "/a.b/c", api.OK)
	b.nodes("/", "/a-b", "/a.b", "/ab", "/c")
	b.gen(10)
	// What is made anew has nothing of what was there.
	b.write(0, 0, "/x/y", "7", api.OK)
	b.setPerms(0, 0, "/x", "b3", api.OK)
	b.setPerms(0, 0, "/x/y", "b4", api.OK)
	b.remove(0, 0, "/x", api.OK)
	b.make(0, 0, "/x/y", api.OK)
	b.read(0, 0, "/x/y", "", api.OK)
	b.perms(0, 0, "/x", "n0", api.OK)
	b.perms(0, 0, "/x/y", "n0", api.OK)
}

func TestNoRemove(t *testing.T) {
	b := makeBed(t)
	b.make(0, 0, "/a/b/c", api.OK)
	b.setPerms(0, 0, "/", "b0", api.OK)
	b.setPerms(0, 0, "/a", "b0,r1", api.OK)
	b.setPerms(0, 0, "/a/b", "n0,w1", api.OK)
	before := picture(b.s)
	for dom := range api.MaxDoms {
		b.remove(dom, 0, "/", api.ErrArg)
		b.remove(dom, 0, "/b", api.ErrNone)
		b.remove(dom, 0, "/a/b/c/d", api.ErrNone)
		b.remove(dom, 0, deepest, api.ErrNone)
		if dom != 0 {
			b.remove(dom, 0, "/a/b/c", api.ErrPerm)
		}
	}
	b.remove(1, 0, "/a", api.ErrPerm)
	b.remove(2, 0, "/a/b", api.ErrPerm)
	b.same(before)
	b.begin(2, 1, api.OK)
	b.remove(2, 1, "/", api.ErrArg)
	b.remove(2, 2, "/", api.ErrNone) // no transaction
	// The node itself is asked, not what is above or below it.
	b.remove(1, 0, "/a/b", api.OK)
	b.nodes("/", "/a")
	b.remove(2, 0, "/a", api.OK)
	b.nodes("/")
}

// P10.3: SetPerms

func TestSetPerms(t *testing.T) {
	b := makeBed(t)
	b.make(0, 0, "/a/b", api.OK)
	b.setPerms(0, 0, "/a", "r3,b1", api.OK)
	b.perms(0, 0, "/a", "r3,b1", api.OK)
	b.perms(0, 0, "/a/b", "n0", api.OK)
	b.gen(2)
	b.setPerms(3, 0, "/a", "b3,n1,w0", api.OK)
	b.perms(3, 0, "/a", "b3,n1,w0", api.OK)
	b.setPerms(3, 0, "/a", "b3,n1,w0", api.OK) // a change, also if they are the same
	b.gen(4)
	b.setPerms(0, 0, "/a", "n4", api.OK)
	b.setPerms(4, 0, "/a", "n4,b0,b1,b2,b3,b5,b6,b7", api.OK)
	b.perms(7, 0, "/a", "n4,b0,b1,b2,b3,b5,b6,b7", api.OK)
	b.setPerms(0, 0, "/a", "n0", api.OK)
	b.perms(0, 0, "/a", "n0", api.OK)
	b.gen(7)
	b.setPerms(0, 0, "/", "b0", api.OK)
	b.perms(5, 0, "/", "b0", api.OK)
	b.write(5, 0, "/e", "", api.OK)
	b.perms(5, 0, "/e", "b5", api.OK)
	b.setPerms(5, 0, "/e", "n5", api.OK)
	b.read(6, 0, "/e", "", api.ErrPerm)
	b.read(5, 0, "/e", "", api.OK)
	b.setPerms(0, 0, "/", "n6", api.OK)
	b.setPerms(6, 0, "/", "r6", api.OK)
	b.perms(1, 0, "/", "r6", api.OK)
}

func TestNoSetPerms(t *testing.T) {
	b := makeBed(t)
	b.make(0, 0, "/a", api.OK)
	b.setPerms(0, 0, "/a", "b1,b2", api.OK)
	b.setPerms(0, 0, "/", "b0", api.OK)
	before := picture(b.s)
	for _, l := range [][]api.Perm{
		nil, {}, {{Dom: 8}}, {{Dom: -1}}, {{Dom: 1}, {Dom: 1}}, {{Dom: 1}, {Dom: 8}}, {{Dom: 1}, {Dom: 2}, {Dom: 2, Read: true}},
		{{}, {}, {}, {}, {}, {}, {}, {}, {}}, {{Dom: 0}, {Dom: 1}, {Dom: 2}, {Dom: 3}, {Dom: 4}, {Dom: 5}, {Dom: 6}, {Dom: 7}, {Dom: 8}},
	} {
		for dom := range api.MaxDoms {
			for _, name := range []string{"/", "/a", "/none"} { // ahead of ErrNone and ErrPerm
				b.want("SetPerms of wrong entries", b.s.SetPerms(dom, 0, name, l), api.ErrArg)
			}
		}
	}
	for dom := range api.MaxDoms {
		b.setPerms(dom, 0, "/none", "n0", api.ErrNone)
		b.setPerms(dom, 0, "/a/b", "n1", api.ErrNone)
		if dom > 1 {
			b.setPerms(dom, 0, "/a", "n1", api.ErrPerm) // also of one that may write
			b.setPerms(dom, 0, "/a", "n"+strconv.Itoa(dom), api.ErrPerm)
		}
	}
	b.setPerms(1, 0, "/a", "n0,b1", api.ErrPerm)
	b.setPerms(1, 0, "/a", "n2,b1", api.ErrPerm)
	b.setPerms(1, 0, "/", "b0", api.ErrPerm)
	b.setPerms(1, 0, "/", "b1", api.ErrPerm)
	b.same(before)
	b.setPerms(1, 0, "/a", "n1", api.OK)
	b.setPerms(2, 0, "/a", "n1", api.ErrPerm)
}

// P10.6: Nodes and Gen

func TestNodesInOrder(t *testing.T) {
	b := makeBed(t)
	for _, name := range []string{"/b", "/a.b/c", "/a/b/c", "/a-b/x", "/a/b-c/d", "/a/b/b", "/A", "/a@", "/0/9/8", "/0/10", "/a/0"} {
		b.make(0, 0, name, api.OK)
	}
	b.nodes("/", "/0", "/0/10", "/0/9", "/0/9/8", "/A", "/a", "/a/0", "/a/b", "/a/b/b", "/a/b/c", "/a/b-c", "/a/b-c/d", "/a-b", "/a-b/x", "/a.b", "/a.b/c", "/a@", "/b")
}

// The generation grows with what changes something, and with nothing else.
func TestGen(t *testing.T) {
	b := makeBed(t)
	b.write(0, 0, "/a", "", api.OK)
	b.gen(1)
	b.s.Read(0, 0, "/a")
	b.s.List(0, 0, "/a")
	b.s.Perms(0, 0, "/a")
	b.watch(0, "/a", "t", api.OK)
	b.unwatch(0, "/a", "t", api.OK)
	b.watch(0, "/", "t", api.OK)
	b.begin(0, 1, api.OK)
	b.begin(0, 2, api.OK)
	b.write(0, 1, "/b/c/d", "", api.OK)
	b.remove(0, 1, "/b", api.OK)
	b.make(0, 2, "/a", api.OK)
	b.write(1, 0, "/a", "", api.ErrPerm)
	b.gen(1)
	b.end(0, 2, true, api.OK) // without changes
	b.gen(1)
	b.end(0, 1, true, api.OK) // of which nothing is left to be seen
	b.gen(2)
	b.nodes("/", "/a")
	b.told(0, "/b t", "/b/c t", "/b/c/d t")
	b.setPerms(0, 0, "/a", "n0", api.OK)
	b.gen(3)
	b.make(0, 0, "/b", api.OK)
	b.gen(4)
	b.remove(0, 0, "/b", api.OK)
	b.gen(5)
	b.want("Drop", b.s.Drop(0), api.OK)
	b.gen(5)
	b.begin(0, 1, api.OK)
	b.write(0, 1, "/b", "", api.OK)
	b.end(0, 1, false, api.OK)
	b.gen(5)
}
