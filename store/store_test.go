package store_test

import (
	"math"
	"slices"
	"strconv"
	"strings"
	"testing"

	"tenement/api"
	"tenement/path"
	"tenement/store"
)

var noDomains = []int{math.MinInt, api.Hyper, api.NoOwner, api.MaxDoms, api.MaxDoms + 1, math.MaxInt}

var noTransactions = []int{math.MinInt, -1, 3, 1 << 16, math.MaxInt}

// longest is a name of as many letters as may be.
const longest = "abcdefghijklmnopqrstuvwxyz-0.9@_"

// deepest is a path of as many names as may be.
const deepest = "/a/b/c/d/e/f/g/h"

// of is n times a text.
func of(n int, s string) string { return strings.Repeat(s, n) }

// perms is the entries of a text.
func perms(s string) []api.Perm {
	l, _, e := path.Perms(s)
	if e != api.OK {
		panic(s)
	}
	return l
}

// noPaths are texts that are no paths, each with its error.
func noPaths() map[string]api.Errno {
	l := map[string]api.Errno{}
	for _, s := range []string{"", "a", "//", "/a/", "/a//b", "/a b", "/\xff", deepest + "/i", "/" + longest + "a", of(129, "/a"), of(1<<16, "/")} {
		_, _, l[s] = path.Parse(s)
	}
	return l
}

// bed is a store whose calls are held against what they must tell.
type bed struct {
	t *testing.T
	s *store.Store
}

func makeBed(t *testing.T) *bed {
	t.Helper()
	s := store.New()
	if s == nil {
		t.Fatal("New: none")
	}
	return &bed{t: t, s: s}
}

func (b *bed) want(what string, got, e api.Errno) {
	b.t.Helper()
	if got != e {
		b.t.Errorf("%s: %v, not %v", what, got, e)
	}
}

func (b *bed) read(dom, tx int, name, value string, e api.Errno) {
	b.t.Helper()
	if is, ge := b.s.Read(dom, tx, name); string(is) != value || ge != e {
		b.t.Errorf("Read(%d, %d, %q) = %q, %v, not %q, %v", dom, tx, name, is, ge, value, e)
	}
}

func (b *bed) list(dom, tx int, name string, e api.Errno, l ...string) {
	b.t.Helper()
	if is, ge := b.s.List(dom, tx, name); !slices.Equal(is, l) || ge != e {
		b.t.Errorf("List(%d, %d, %q) = %q, %v, not %q, %v", dom, tx, name, is, ge, l, e)
	}
}

// perms asks for a node's entries, which are told as text.
func (b *bed) perms(dom, tx int, name, l string, e api.Errno) {
	b.t.Helper()
	is, ge := b.s.Perms(dom, tx, name)
	text, _ := path.Text(is)
	if text != l || ge != e || e != api.OK && len(is) != 0 {
		b.t.Errorf("Perms(%d, %d, %q) = %v, %v, not %q, %v", dom, tx, name, is, ge, l, e)
	}
}

func (b *bed) write(dom, tx int, name, value string, e api.Errno) {
	b.t.Helper()
	b.want("Write("+strconv.Itoa(dom)+", "+strconv.Itoa(tx)+", "+name+")", b.s.Write(dom, tx, name, []byte(value)), e)
}

func (b *bed) make(dom, tx int, name string, e api.Errno) {
	b.t.Helper()
	b.want("Make("+strconv.Itoa(dom)+", "+strconv.Itoa(tx)+", "+name+")", b.s.Make(dom, tx, name), e)
}

func (b *bed) remove(dom, tx int, name string, e api.Errno) {
	b.t.Helper()
	b.want("Remove("+strconv.Itoa(dom)+", "+strconv.Itoa(tx)+", "+name+")", b.s.Remove(dom, tx, name), e)
}

func (b *bed) setPerms(dom, tx int, name, l string, e api.Errno) {
	b.t.Helper()
	b.want("SetPerms("+strconv.Itoa(dom)+", "+strconv.Itoa(tx)+", "+name+", "+l+")", b.s.SetPerms(dom, tx, name, perms(l)), e)
}

func (b *bed) begin(dom, n int, e api.Errno) {
	b.t.Helper()
	if is, ge := b.s.Begin(dom); is != n || ge != e {
		b.t.Errorf("Begin(%d) = %d, %v, not %d, %v", dom, is, ge, n, e)
	}
}

func (b *bed) end(dom, tx int, commit bool, e api.Errno) {
	b.t.Helper()
	b.want("End("+strconv.Itoa(dom)+", "+strconv.Itoa(tx)+", "+strconv.FormatBool(commit)+")", b.s.End(dom, tx, commit), e)
}

func (b *bed) watch(dom int, name, token string, e api.Errno) {
	b.t.Helper()
	b.want("Watch("+strconv.Itoa(dom)+", "+name+", "+token+")", b.s.Watch(dom, name, token), e)
}

func (b *bed) unwatch(dom int, name, token string, e api.Errno) {
	b.t.Helper()
	b.want("Unwatch("+strconv.Itoa(dom)+", "+name+", "+token+")", b.s.Unwatch(dom, name, token), e)
}

// told asks for all that a domain is told, each as path and token with a blank between, and lets it wait no more.
func (b *bed) told(dom int, l ...string) {
	b.t.Helper()
	var is []string
	for {
		e, none := b.s.Next(dom)
		if none != api.OK {
			b.want("Next behind the last one", none, api.ErrNone)
			break
		}
		is = append(is, e.Path+" "+e.Token)
	}
	if !slices.Equal(is, l) {
		b.t.Errorf("domain %d was told %q, not %q", dom, is, l)
	}
}

func (b *bed) nodes(l ...string) {
	b.t.Helper()
	if is := b.s.Nodes(); !slices.Equal(is, l) {
		b.t.Errorf("Nodes() = %q, not %q", is, l)
	}
}

func (b *bed) gen(n int) {
	b.t.Helper()
	if is := b.s.Gen(); is != n {
		b.t.Errorf("Gen() = %d, not %d", is, n)
	}
}

// picture tells all that a store tells outside of transactions.
func picture(s *store.Store) string {
	var text strings.Builder
	text.WriteString(strconv.Itoa(s.Gen()))
	for _, name := range s.Nodes() {
		value, _ := s.Read(0, 0, name)
		l, _ := s.Perms(0, 0, name)
		pictureNode(&text, name, string(value), l)
	}
	for dom := range api.MaxDoms {
		pictureEvents(&text, dom, s.Waiting(dom))
	}
	return text.String()
}

func pictureNode(text *strings.Builder, name, value string, l []api.Perm) {
	entries, _ := path.Text(l)
	text.WriteString("\n" + name + " " + strconv.Quote(value) + " " + entries)
}

func pictureEvents(text *strings.Builder, dom int, l []api.Event) {
	for _, e := range l {
		text.WriteString("\n" + strconv.Itoa(dom) + " " + e.Path + " " + strconv.Quote(e.Token))
	}
}

// same asks that what was refused has changed nothing.
func (b *bed) same(before string) {
	b.t.Helper()
	if now := picture(b.s); now != before {
		b.t.Errorf("something has changed: from\n%s\nto\n%s", before, now)
	}
}

// call is one of the calls that look at a tree, with all else that it is given.
type call struct {
	name string
	do   func(dom, tx int, name string) api.Errno
}

// treeCalls are those that a domain's number, a transaction's and a path are handed to. What else they are given is wrong, so that it may not be looked at first.
func (b *bed) treeCalls() []call {
	return []call{
		{"Read", func(dom, tx int, name string) api.Errno {
			v, e := b.s.Read(dom, tx, name)
			b.nothing("Read", len(v))
			return e
		}},
		{"List", func(dom, tx int, name string) api.Errno {
			l, e := b.s.List(dom, tx, name)
			b.nothing("List", len(l))
			return e
		}},
		{"Perms", func(dom, tx int, name string) api.Errno {
			l, e := b.s.Perms(dom, tx, name)
			b.nothing("Perms", len(l))
			return e
		}},
		{"Write", func(dom, tx int, name string) api.Errno {
			return b.s.Write(dom, tx, name, make([]byte, api.MaxValue+1))
		}},
		{"Make", func(dom, tx int, name string) api.Errno { return b.s.Make(dom, tx, name) }},
		{"Remove", func(dom, tx int, name string) api.Errno { return b.s.Remove(dom, tx, name) }},
		{"SetPerms", func(dom, tx int, name string) api.Errno { return b.s.SetPerms(dom, tx, name, nil) }},
	}
}

// nameCalls are those that no transaction is handed to.
func (b *bed) nameCalls() []call {
	long := of(api.MaxValue+1, "t")
	return []call{
		{"Watch", func(dom, _ int, name string) api.Errno { return b.s.Watch(dom, name, long) }},
		{"Unwatch", func(dom, _ int, name string) api.Errno { return b.s.Unwatch(dom, name, long) }},
	}
}

// domCalls are those that no path is handed to.
func (b *bed) domCalls() []call {
	return []call{
		{"Begin", func(dom, _ int, _ string) api.Errno {
			n, e := b.s.Begin(dom)
			b.nothing("Begin", n)
			return e
		}},
		{"End", func(dom, tx int, _ string) api.Errno { return b.s.End(dom, tx, true) }},
		{"Next", func(dom, _ int, _ string) api.Errno {
			event, e := b.s.Next(dom)
			b.nothing("Next", len(event.Path)+len(event.Token))
			return e
		}},
		{"Drop", func(dom, _ int, _ string) api.Errno { return b.s.Drop(dom) }},
	}
}

// nothing asks that beside an error there is no other answer.
func (b *bed) nothing(what string, n int) {
	b.t.Helper()
	if n != 0 {
		b.t.Errorf("%s tells something beside an error", what)
	}
}

// P10.1: what each call looks at first

func TestNoDomain(t *testing.T) {
	b := makeBed(t)
	b.write(0, 0, "/a", "7", api.OK)
	b.watch(0, "/", "t", api.OK)
	b.write(0, 0, "/a", "8", api.OK)
	before := picture(b.s)
	for _, c := range slices.Concat(b.treeCalls(), b.nameCalls(), b.domCalls()) {
		for _, dom := range noDomains {
			for _, name := range []string{"/a", "/none", "/", "", "no path"} {
				for _, tx := range []int{0, 1, -1} {
					b.want(c.name+" of domain "+strconv.Itoa(dom), c.do(dom, tx, name), api.ErrArg)
				}
			}
		}
	}
	for _, dom := range noDomains {
		if l := b.s.Waiting(dom); len(l) != 0 {
			t.Errorf("Waiting(%d) = %v", dom, l)
		}
	}
	b.same(before)
}

func TestNoPath(t *testing.T) {
	b := makeBed(t)
	b.write(0, 0, "/a", "7", api.OK)
	before := picture(b.s)
	for name, e := range noPaths() {
		if e != api.ErrPath && e != api.ErrLong {
			t.Fatalf("Parse(%q): %v", name, e)
		}
		for _, c := range slices.Concat(b.treeCalls(), b.nameCalls()) {
			for _, dom := range []int{0, 1, 7} {
				for _, tx := range []int{0, 1, -1, math.MaxInt} {
					b.want(c.name+" of "+strconv.Quote(name), c.do(dom, tx, name), e)
				}
			}
		}
	}
	b.same(before)
}

func TestNoTransaction(t *testing.T) {
	b := makeBed(t)
	b.write(0, 0, "/a", "7", api.OK)
	b.begin(1, 1, api.OK)
	b.begin(2, 2, api.OK)
	before := picture(b.s)
	for _, c := range b.treeCalls() {
		for _, name := range []string{"/a", "/none", "/"} {
			for _, tx := range append([]int{1, 2}, noTransactions...) {
				b.want(c.name+" in "+strconv.Itoa(tx), c.do(0, tx, name), api.ErrNone)
			}
			b.want(c.name+" in another's", c.do(1, 2, name), api.ErrNone)
			b.want(c.name+" in another's", c.do(2, 1, name), api.ErrNone)
		}
	}
	b.end(1, 1, false, api.OK)
	for _, c := range b.treeCalls() {
		b.want(c.name+" in one that has ended", c.do(1, 1, "/a"), api.ErrNone)
	}
	b.same(before)
}

// P10.1: Read, List, Perms

func TestRoot(t *testing.T) {
	b := makeBed(t)
	b.nodes("/")
	b.gen(0)
	b.read(0, 0, "/", "", api.OK)
	b.list(0, 0, "/", api.OK)
	b.perms(0, 0, "/", "n0", api.OK)
	for dom := 1; dom < api.MaxDoms; dom++ {
		b.read(dom, 0, "/", "", api.ErrPerm)
		b.list(dom, 0, "/", api.ErrPerm)
		b.perms(dom, 0, "/", "", api.ErrPerm)
		b.write(dom, 0, "/", "x", api.ErrPerm)
		b.write(dom, 0, "/a", "x", api.ErrPerm)
		b.make(dom, 0, "/", api.ErrPerm)
		b.make(dom, 0, "/a/b", api.ErrPerm)
		b.setPerms(dom, 0, "/", "b"+strconv.Itoa(dom), api.ErrPerm)
	}
	b.nodes("/")
	b.gen(0)
}

func TestReadsOfNone(t *testing.T) {
	b := makeBed(t)
	b.write(0, 0, "/a/b", "7", api.OK)
	for _, name := range []string{"/b", "/a/b/c", "/a/bb", "/a-b", "/A", deepest} {
		for _, dom := range []int{0, 1, 7} {
			b.read(dom, 0, name, "", api.ErrNone)
			b.list(dom, 0, name, api.ErrNone)
			b.perms(dom, 0, name, "", api.ErrNone)
		}
	}
}

// What a domain may read is what path.May says of the node's own entries, whatever is above it.
func TestWhoMayRead(t *testing.T) {
	b := makeBed(t)
	b.write(0, 0, "/a/b", "7", api.OK)
	b.write(0, 0, "/a/b/c", "", api.OK)
	for _, l := range []string{"n0", "r0", "w0", "b0", "n1", "r1", "n0,r1", "n0,w1", "r0,n1", "b0,w1,r2,n3", "n7,b6,r5,w4,n3"} {
		b.setPerms(0, 0, "/a/b", l, api.OK)
		for dom := range api.MaxDoms {
			if may, _ := path.May(perms(l), dom); may {
				b.read(dom, 0, "/a/b", "7", api.OK)
				b.list(dom, 0, "/a/b", api.OK, "c")
				b.perms(dom, 0, "/a/b", l, api.OK)
			} else {
				b.read(dom, 0, "/a/b", "", api.ErrPerm)
				b.list(dom, 0, "/a/b", api.ErrPerm)
				b.perms(dom, 0, "/a/b", "", api.ErrPerm)
			}
		}
	}
}

func TestList(t *testing.T) {
	b := makeBed(t)
	names := []string{"b", "a", "a-", "a.b", "a_b", "a@", "B", "0", "10", "9", "-", "_", ".", "@", "zz", "z", longest}
	for n, name := range names {
		b.write(0, 0, "/"+name, "", api.OK)
		b.write(0, 0, "/x/"+names[len(names)-1-n], "", api.OK)
		b.write(0, 0, "/x/"+name+"/deeper/yet", "", api.OK)
	}
	slices.Sort(names)
	b.list(0, 0, "/x", api.OK, names...)
	b.list(0, 0, "/x/a", api.OK, "deeper")
	b.list(0, 0, "/x/a-", api.OK, "deeper")
	b.list(0, 0, "/x/a/deeper", api.OK, "yet")
	b.list(0, 0, "/x/a/deeper/yet", api.OK)
	names = append(names, "x")
	slices.Sort(names)
	b.list(0, 0, "/", api.OK, names...)
	b.begin(0, 1, api.OK)
	b.list(0, 1, "/", api.OK, names...)
	b.write(0, 1, "/a/a", "", api.OK)
	b.list(0, 1, "/a", api.OK, "a")
	b.list(0, 0, "/a", api.OK)
}

// P4: what is handed in is neither changed nor kept, and what is answered is new.
func TestNothingIsShared(t *testing.T) {
	b := makeBed(t)
	value := []byte("abc")
	l := perms("r1,b2")
	b.want("Write", b.s.Write(0, 0, "/a/b", value), api.OK)
	b.want("SetPerms", b.s.SetPerms(0, 0, "/a/b", l), api.OK)
	b.begin(0, 1, api.OK)
	value[0], l[0] = 'x', api.Perm{Dom: 3}
	for range 2 {
		for _, tx := range []int{0, 1} {
			b.read(0, tx, "/a/b", "abc", api.OK)
			b.perms(0, tx, "/a/b", "r1,b2", api.OK)
			is, _ := b.s.Read(0, tx, "/a/b")
			is[1] = 'y'
			entries, _ := b.s.Perms(0, tx, "/a/b")
			entries[1] = api.Perm{Dom: 4}
			names, _ := b.s.List(0, tx, "/a")
			names[0] = "z"
			b.list(0, tx, "/a", api.OK, "b")
		}
		b.s.Nodes()[1] = "/z"
		b.nodes("/", "/a", "/a/b")
	}
	if string(value) != "xbc" || l[1] != (api.Perm{Dom: 2, Read: true, Write: true}) {
		t.Error("what was handed in has changed")
	}
	// A list with room behind it is not written on.
	room := append(make([]byte, 0, 8), "12"...)
	b.want("Write", b.s.Write(0, 0, "/c", room), api.OK)
	b.want("Write of what is there", b.s.Write(0, 0, "/c", room), api.OK)
	room[1] = '3'
	b.read(0, 0, "/c", "12", api.OK)
	room[1] = '2'
	b.want("SetPerms", b.s.SetPerms(0, 0, "/c", append(make([]api.Perm, 0, 8), api.Perm{})), api.OK)
	b.write(1, 0, "/a/b/c", "", api.OK)
	if string(room[:8]) != "12\x00\x00\x00\x00\x00\x00" {
		t.Error("what was handed in has changed")
	}
	b.watch(0, "/", "t", api.OK)
	b.write(0, 0, "/c", "", api.OK)
	b.s.Waiting(0)[0] = api.Event{}
	b.told(0, "/c t")
}

// P10.6: a store that no call made

func TestNoStore(t *testing.T) {
	for _, s := range []*store.Store{nil, {}, new(store.Store)} {
		b := &bed{t: t, s: s}
		for _, c := range slices.Concat(b.treeCalls(), b.nameCalls(), b.domCalls()) {
			for _, dom := range append([]int{0, 7}, noDomains...) {
				for _, name := range []string{"/", "/a", "", "no path"} {
					b.want(c.name, c.do(dom, 0, name), api.ErrZero)
					b.want(c.name, c.do(dom, 1, name), api.ErrZero)
				}
			}
		}
		b.want("Write", s.Write(0, 0, "/a", nil), api.ErrZero)
		b.want("SetPerms", s.SetPerms(0, 0, "/", perms("n0")), api.ErrZero)
		if len(s.Waiting(0)) != 0 || len(s.Waiting(-1)) != 0 || len(s.Nodes()) != 0 || s.Gen() != 0 {
			t.Error("a store that no call made tells something")
		}
	}
}

// Stores have nothing in common.
func TestStoresAreApart(t *testing.T) {
	a, b := makeBed(t), makeBed(t)
	a.setPerms(0, 0, "/", "b0", api.OK)
	a.watch(1, "/", "t", api.OK)
	a.begin(1, 1, api.OK)
	a.write(1, 0, "/a", "", api.OK)
	b.nodes("/")
	b.gen(0)
	b.perms(0, 0, "/", "n0", api.OK)
	b.begin(1, 1, api.OK)
	b.told(1)
	makeBed(t).perms(0, 0, "/", "n0", api.OK)
}

// The chapter's examples.
func TestExamples(t *testing.T) {
	b := makeBed(t)
	b.write(0, 0, "/a/b", "\x07", api.OK)
	b.nodes("/", "/a", "/a/b")
	b.read(1, 0, "/a/b", "", api.ErrPerm)
	b.setPerms(0, 0, "/a/b", "n0,r1", api.OK)
	b.read(1, 0, "/a/b", "\x07", api.OK)
	b.watch(1, "/a", "t", api.OK)
	b.write(0, 0, "/a/b", "\x08", api.OK)
	b.told(1, "/a/b t")
	b.write(0, 0, "/a/c", "", api.OK)
	b.told(1)
	b.begin(0, 1, api.OK)
	b.write(0, 1, "/x", "", api.OK)
	b.write(0, 0, "/y", "", api.OK)
	b.end(0, 1, true, api.ErrAgain)
	b.read(0, 0, "/x", "", api.ErrNone)
}
