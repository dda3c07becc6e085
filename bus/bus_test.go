package bus_test

import (
	"math"
	"slices"
	"strings"
	"testing"

	"tenement/api"
	"tenement/bus"
	"tenement/path"
	"tenement/store"
)

// noDomains are numbers of none.
var noDomains = []int{math.MinInt, -2, -1, 8, 9, 256, math.MaxInt}

// bed is a store and a device in it.
type bed struct {
	t *testing.T
	s *store.Store
	d *bus.Device
}

// makeBed makes a device of these ends in a store of its own.
func makeBed(t *testing.T, front, back, n int) *bed {
	t.Helper()
	s := store.New()
	d, e := bus.New(s, front, back, n)
	if d == nil || e != api.OK {
		t.Fatalf("New(%d, %d, %d): %v", front, back, n, e)
	}
	return &bed{t, s, d}
}

func (b *bed) step(want int) {
	b.t.Helper()
	if is, e := b.d.Step(); is != want || e != api.OK {
		b.t.Errorf("Step() = %d, %v, not %d", is, e, want)
	}
}

func (b *bed) turn(dom, to int, want api.Errno) {
	b.t.Helper()
	if e := b.d.Switch(dom, to); e != want {
		b.t.Errorf("Switch(%d, %d): %v, not %v", dom, to, e, want)
	}
}

func (b *bed) see(dom, own, other int) {
	b.t.Helper()
	if is, far, e := b.d.See(dom); is != own || far != other || e != api.OK {
		b.t.Errorf("See(%d) = %d, %d, %v, not %d, %d", dom, is, far, e, own, other)
	}
}

// lay has domain 0 write a value.
func (b *bed) lay(name, value string) {
	b.t.Helper()
	if e := b.s.Write(0, 0, name, []byte(value)); e != api.OK {
		b.t.Fatalf("Write of %q to %s: %v", value, name, e)
	}
}

// values are what domain 0 reads of both nodes.
func (b *bed) values(front, back string) {
	b.t.Helper()
	wantValue(b.t, b.s, b.d.Front(), front)
	wantValue(b.t, b.s, b.d.Back(), back)
}

func wantValue(t *testing.T, s *store.Store, name, want string) {
	t.Helper()
	if value, e := s.Read(0, 0, name); string(value) != want || e != api.OK {
		t.Errorf("%s is %q, %v, not %q", name, value, e, want)
	}
}

func (b *bed) perms(name, want string) {
	b.t.Helper()
	wantPerms(b.t, b.s, name, want)
}

func wantPerms(t *testing.T, s *store.Store, name, want string) {
	t.Helper()
	l, e := s.Perms(0, 0, name)
	if e != api.OK {
		t.Fatalf("Perms of %s: %v", name, e)
	}
	if is, _ := path.Text(l); is != want {
		t.Errorf("%s has %s, not %s", name, is, want)
	}
}

// setPerms has domain 0 set permissions.
func (b *bed) setPerms(name, text string) {
	b.t.Helper()
	l, _, _ := path.Perms(text)
	if e := b.s.SetPerms(0, 0, name, l); e != api.OK {
		b.t.Fatalf("SetPerms of %s: %v", name, e)
	}
}

func (b *bed) remove(name string) {
	b.t.Helper()
	if e := b.s.Remove(0, 0, name); e != api.OK {
		b.t.Fatalf("Remove of %s: %v", name, e)
	}
}

// told are the paths of the events that wait for a domain.
func told(s *store.Store, dom int) []string {
	var l []string
	for _, e := range s.Waiting(dom) {
		l = append(l, e.Path)
	}
	return l
}

func wantList(t *testing.T, what string, is []string, want ...string) {
	t.Helper()
	if !slices.Equal(is, want) {
		t.Errorf("%s: %q, not %q", what, is, want)
	}
}

// picture is all that stands in a store, and its generation.
func picture(s *store.Store) string {
	var l []string
	for _, name := range s.Nodes() {
		value, _ := s.Read(0, 0, name)
		perms, _ := s.Perms(0, 0, name)
		text, _ := path.Text(perms)
		l = append(l, name+"="+string(value)+" "+text)
	}
	return strings.Join(l, "\n") + "\n" + strings.Repeat("+", s.Gen())
}

// P11.2: New

func TestNew(t *testing.T) {
	b := makeBed(t, 1, 0, 7)
	if b.d.Front() != "/dom/1/dev/7/state" || b.d.Back() != "/dom/0/back/1/7/state" {
		t.Errorf("its nodes are %s, %s", b.d.Front(), b.d.Back())
	}
	b.values("1", "1")
	b.perms(b.d.Front(), "n1,r0")
	b.perms(b.d.Back(), "n0,r1")
	wantList(t, "the nodes", b.s.Nodes(), "/", "/dom",
		"/dom/0", "/dom/0/back", "/dom/0/back/1", "/dom/0/back/1/7", "/dom/0/back/1/7/state",
		"/dom/1", "/dom/1/dev", "/dom/1/dev/7", "/dom/1/dev/7/state")
	for _, name := range []string{"/", "/dom", "/dom/0", "/dom/0/back", "/dom/0/back/1", "/dom/0/back/1/7", "/dom/1", "/dom/1/dev", "/dom/1/dev/7"} {
		wantValue(t, b.s, name, "")
		b.perms(name, "n0")
	}
	if b.s.Gen() != 4 {
		t.Errorf("the generation is %d, not that of two writes and two permissions", b.s.Gen())
	}
}

// All ends that may be, and the numbers' ends.
func TestNewOfAllEnds(t *testing.T) {
	digit := func(n int) string { return string(rune('0' + n)) }
	for front := range api.MaxDoms {
		for back := range api.MaxDoms {
			if front == back {
				continue
			}
			for n, text := range map[int]string{0: "0", 1: "1", 9: "9", 10: "10", 42: "42", 90: "90", 98: "98", 99: "99"} {
				b := makeBed(t, front, back, n)
				f, k := digit(front), digit(back)
				if b.d.Front() != "/dom/"+f+"/dev/"+text+"/state" || b.d.Back() != "/dom/"+k+"/back/"+f+"/"+text+"/state" {
					t.Fatalf("New(%d, %d, %d): %s, %s", front, back, n, b.d.Front(), b.d.Back())
				}
				b.values("1", "1")
				b.perms(b.d.Front(), "n"+f+",r"+k)
				b.perms(b.d.Back(), "n"+k+",r"+f)
				b.see(front, api.BInit, api.BInit)
				b.see(back, api.BInit, api.BInit)
			}
		}
	}
}

func TestNewOfAllNumbers(t *testing.T) {
	for n := -3; n < 103; n++ {
		s := store.New()
		d, e := bus.New(s, 3, 4, n)
		want := api.OK
		if n < 0 || n > 99 {
			want = api.ErrArg
		}
		if e != want || (d != nil) != (want == api.OK) {
			t.Errorf("New(3, 4, %d): %v, not %v", n, e, want)
		}
	}
}

func TestNoNew(t *testing.T) {
	s := store.New()
	before := picture(s)
	none := func(front, back, n int) {
		t.Helper()
		if d, e := bus.New(s, front, back, n); d != nil || e != api.ErrArg {
			t.Errorf("New(%d, %d, %d): %v", front, back, n, e)
		}
	}
	for _, dom := range noDomains {
		none(dom, 0, 0)
		none(0, dom, 0)
		none(dom, dom, 0)
		none(dom, dom, -1)
	}
	for dom := range api.MaxDoms {
		none(dom, dom, 0)
	}
	for _, n := range []int{math.MinInt, -100, -1, 100, 101, 256, math.MaxInt} {
		none(1, 0, n)
	}
	if picture(s) != before {
		t.Error("something was written")
	}
}

// ErrZero comes ahead of all.
func TestNewInNoStore(t *testing.T) {
	for _, s := range []*store.Store{nil, {}, new(store.Store)} {
		for _, l := range [][3]int{{1, 0, 7}, {-1, 0, 7}, {0, 9, 7}, {1, 1, 7}, {1, 0, 100}} {
			if d, e := bus.New(s, l[0], l[1], l[2]); d != nil || e != api.ErrZero {
				t.Errorf("New(%v): %v", l, e)
			}
		}
	}
}

func TestNewTwice(t *testing.T) {
	b := makeBed(t, 1, 0, 7)
	b.lay(b.d.Front(), "4")
	before := picture(b.s)
	if d, e := bus.New(b.s, 1, 0, 7); d != nil || e != api.ErrTwice {
		t.Errorf("New again: %v", e)
	}
	// Another back end's device of the front's would have the same front node.
	if d, e := bus.New(b.s, 1, 2, 7); d != nil || e != api.ErrTwice {
		t.Errorf("New with another back end: %v", e)
	}
	// What can't be at all is ErrArg, whatever is there.
	if d, e := bus.New(b.s, 1, 1, 7); d != nil || e != api.ErrArg {
		t.Errorf("New of one end: %v", e)
	}
	if picture(b.s) != before {
		t.Error("something was written")
	}
	for _, l := range [][3]int{{1, 0, 6}, {0, 1, 7}, {2, 0, 7}, {1, 2, 8}} {
		if d, e := bus.New(b.s, l[0], l[1], l[2]); d == nil || e != api.OK {
			t.Errorf("New(%v): %v", l, e)
		}
	}
	b.values("4", "1")
}

// Each node alone is enough, whoever laid it, and whatever it is for; nodes above are not.
func TestNewWhereANodeIs(t *testing.T) {
	const front, back = "/dom/1/dev/7/state", "/dom/0/back/1/7/state"
	for name, want := range map[string]api.Errno{
		front: api.ErrTwice, back: api.ErrTwice, front + "/x": api.ErrTwice, back + "/x": api.ErrTwice,
		"/dom/1/dev/7": api.OK, "/dom/0/back/1/7/states": api.OK, "/dom/1/dev/77/state": api.OK, "/dom/1/back/0/7/state": api.OK,
	} {
		s := store.New()
		s.Write(0, 0, name, nil)
		before := picture(s)
		d, e := bus.New(s, 1, 0, 7)
		if e != want || (d != nil) != (want == api.OK) {
			t.Errorf("New beside %s: %v", name, e)
		}
		if want != api.OK && picture(s) != before {
			t.Errorf("New beside %s wrote something", name)
		}
	}
	// Also one that only another domain may read.
	s := store.New()
	s.Write(0, 0, front, []byte("9"))
	s.SetPerms(0, 0, front, []api.Perm{{Dom: 5}})
	if _, e := bus.New(s, 1, 0, 7); e != api.ErrTwice {
		t.Errorf("New beside another's node: %v", e)
	}
}

// What was removed may be there again.
func TestNewAfterRemove(t *testing.T) {
	b := makeBed(t, 1, 0, 7)
	b.step(api.BWait)
	if e := b.d.Remove(); e != api.OK {
		t.Fatalf("Remove: %v", e)
	}
	again, e := bus.New(b.s, 1, 0, 7)
	if e != api.OK {
		t.Fatalf("New: %v", e)
	}
	// Two devices of the same ends are the same nodes.
	b.values("1", "1")
	b.step(api.BWait)
	if own, other, e := again.See(0); own != api.BWait || other != api.BInit || e != api.OK {
		t.Errorf("See(0) = %d, %d, %v", own, other, e)
	}
}

// The front's node comes first; who may read a node from its permissions on is told of it by those.
func TestNewTells(t *testing.T) {
	s := store.New()
	for dom := range 3 {
		s.Watch(dom, "/", "t")
	}
	d, _ := bus.New(s, 1, 0, 7)
	wantList(t, "domain 0 is told of", told(s, 0), "/dom", "/dom/1", "/dom/1/dev", "/dom/1/dev/7", d.Front(),
		"/dom/0", "/dom/0/back", "/dom/0/back/1", "/dom/0/back/1/7", d.Back())
	wantList(t, "domain 1 is told of", told(s, 1), d.Front(), d.Back())
	wantList(t, "domain 2 is told of", told(s, 2))
}

// fill makes nodes till a store has so many.
func fill(t *testing.T, s *store.Store, n int) {
	t.Helper()
	name := func(n int) string {
		return "/f" + strings.Repeat("x", n/26) + string(rune('a'+n%26))
	}
	for k := 0; len(s.Nodes()) < n; k++ {
		if e := s.Make(0, 0, name(k)); e != api.OK {
			t.Fatalf("Make: %v", e)
		}
	}
}

func TestNewInAFullStore(t *testing.T) {
	s := store.New()
	fill(t, s, api.MaxNodes-4)
	before := picture(s)
	if d, e := bus.New(s, 1, 0, 7); d != nil || e != api.ErrFull {
		t.Errorf("New: %v", e)
	}
	if picture(s) != before {
		t.Error("something was written")
	}
}

// What was written ahead stays: the front's node, of which nobody has said yet whose it is.
func TestNewInAStoreThatGetsFull(t *testing.T) {
	s := store.New()
	fill(t, s, api.MaxNodes-9)
	gen := s.Gen()
	if d, e := bus.New(s, 1, 0, 7); d != nil || e != api.ErrFull {
		t.Errorf("New: %v", e)
	}
	if s.Gen() != gen+1 || len(s.Nodes()) != api.MaxNodes-4 {
		t.Errorf("%d changes, %d nodes", s.Gen()-gen, len(s.Nodes()))
	}
	wantValue(t, s, "/dom/1/dev/7/state", "1")
	wantPerms(t, s, "/dom/1/dev/7/state", "n0")
	if _, e := s.Read(0, 0, "/dom/0"); e != api.ErrNone {
		t.Errorf("/dom/0: %v", e)
	}
	if _, e := bus.New(s, 1, 0, 7); e != api.ErrTwice {
		t.Errorf("New again: %v", e)
	}
}

// With the last node that may be all is well.
func TestNewInAStoreThatIsJustFull(t *testing.T) {
	s := store.New()
	fill(t, s, api.MaxNodes-10)
	d, e := bus.New(s, 1, 0, 7)
	if d == nil || e != api.OK {
		t.Fatalf("New: %v", e)
	}
	if len(s.Nodes()) != api.MaxNodes {
		t.Errorf("%d nodes", len(s.Nodes()))
	}
	if is, e := d.Step(); is != api.BWait || e != api.OK {
		t.Errorf("Step() = %d, %v", is, e)
	}
}

// P11.3: See

func TestSee(t *testing.T) {
	b := makeBed(t, 3, 5, 0)
	b.lay(b.d.Front(), "2")
	b.lay(b.d.Back(), "6")
	b.see(3, api.BWait, api.BClosed)
	b.see(5, api.BClosed, api.BWait)
	for _, value := range []string{"", "0", "7", "22", "garbage"} {
		b.lay(b.d.Front(), value)
		b.see(3, api.BUnknown, api.BClosed)
		b.see(5, api.BClosed, api.BUnknown)
	}
}

func TestSeeAsIsRead(t *testing.T) {
	b := makeBed(t, 3, 5, 0)
	b.lay(b.d.Front(), "2")
	b.lay(b.d.Back(), "6")
	b.setPerms(b.d.Front(), "n3")
	b.see(3, api.BWait, api.BClosed)
	b.see(5, api.BClosed, api.BUnknown)
	b.setPerms(b.d.Front(), "n6,r5")
	b.see(3, api.BUnknown, api.BClosed)
	b.see(5, api.BClosed, api.BWait)
	b.setPerms(b.d.Front(), "n6")
	b.setPerms(b.d.Back(), "r6,n5")
	b.see(3, api.BUnknown, api.BClosed)
	b.see(5, api.BUnknown, api.BUnknown)
	b.remove(b.d.Back())
	b.see(3, api.BUnknown, api.BUnknown)
	// Domain 0 reads all.
	b = makeBed(t, 3, 0, 0)
	b.setPerms(b.d.Front(), "n6")
	b.setPerms(b.d.Back(), "n6")
	b.see(0, api.BInit, api.BInit)
	b.see(3, api.BUnknown, api.BUnknown)
}

// What is open in a transaction is not seen.
func TestSeeTheTreeItself(t *testing.T) {
	b := makeBed(t, 1, 0, 7)
	tx, _ := b.s.Begin(1)
	b.s.Write(1, tx, b.d.Front(), []byte("5"))
	b.see(0, api.BInit, api.BInit)
	b.see(1, api.BInit, api.BInit)
	b.s.End(1, tx, true)
	b.see(0, api.BInit, api.BClosing)
	b.see(1, api.BClosing, api.BInit)
}

// Domain 0 too sees and switches only where it is an end.
func TestNeitherEnd(t *testing.T) {
	b := makeBed(t, 3, 5, 0)
	before := picture(b.s)
	for _, dom := range append([]int{0, 1, 2, 4, 6, 7}, noDomains...) {
		if own, other, e := b.d.See(dom); own != 0 || other != 0 || e != api.ErrArg {
			t.Errorf("See(%d) = %d, %d, %v", dom, own, other, e)
		}
		for _, to := range numbers {
			b.turn(dom, to, api.ErrArg)
		}
	}
	if picture(b.s) != before {
		t.Error("something was written")
	}
}

// P11.3: Switch

func TestSwitch(t *testing.T) {
	b := makeBed(t, 3, 5, 0)
	b.turn(5, api.BWait, api.OK)
	b.values("1", "2")
	b.turn(3, api.BReady, api.OK)
	b.values("3", "2")
	b.turn(3, api.BReady, api.ErrState)
	b.turn(5, api.BOpen, api.OK)
	b.turn(3, api.BOpen, api.OK)
	b.values("4", "4")
	b.turn(3, api.BInit, api.ErrState)
	b.turn(3, api.BClosed, api.ErrState)
	b.turn(3, api.BClosing, api.OK)
	b.turn(3, api.BClosed, api.ErrState) // the back end is open still
	b.turn(5, api.BClosing, api.OK)
	b.turn(5, api.BClosed, api.OK)
	b.turn(3, api.BClosed, api.OK)
	b.values("6", "6")
	b.turn(3, api.BInit, api.OK)
	b.turn(5, api.BInit, api.OK)
	b.values("1", "1")
	b.perms(b.d.Front(), "n3,r5")
	b.perms(b.d.Back(), "n5,r3")
}

// Either end, from each state to each number, with the other in each.
func TestSwitchOfAll(t *testing.T) {
	b := makeBed(t, 3, 5, 0)
	digits := "0123456"
	for dom, nodes := range map[int][2]string{3: {b.d.Front(), b.d.Back()}, 5: {b.d.Back(), b.d.Front()}} {
		for from := range digits {
			for other := range digits {
				for _, to := range numbers {
					b.lay(nodes[0], digits[from:from+1])
					b.lay(nodes[1], digits[other:other+1])
					gen := b.s.Gen()
					want, value := api.ErrState, digits[from:from+1]
					if mayGo(from, to, other) {
						want, value, gen = api.OK, digits[to:to+1], gen+1
					}
					b.turn(dom, to, want)
					wantValue(t, b.s, nodes[0], value)
					wantValue(t, b.s, nodes[1], digits[other:other+1])
					if b.s.Gen() != gen {
						t.Errorf("Switch(%d, %d) from %d with %d: %d changes too many", dom, to, from, other, b.s.Gen()-gen)
					}
				}
			}
		}
	}
}

// A switch goes by what its end sees, which may be less than what is there.
func TestSwitchAsIsSeen(t *testing.T) {
	b := makeBed(t, 3, 5, 0)
	b.lay(b.d.Front(), "2")
	b.lay(b.d.Back(), "3")
	b.setPerms(b.d.Back(), "n5")
	b.turn(3, api.BOpen, api.ErrState)
	b.setPerms(b.d.Back(), "n5,r3")
	b.turn(3, api.BOpen, api.OK)
	// Its own node that it may write but not read: it is unknown to itself.
	b.setPerms(b.d.Front(), "n6,w3")
	b.lay(b.d.Back(), "1")
	b.turn(3, api.BClosing, api.ErrState)
	b.turn(3, api.BInit, api.OK)
	b.values("1", "1")
}

func TestSwitchOfWhatItMayNotWrite(t *testing.T) {
	b := makeBed(t, 3, 5, 0)
	b.setPerms(b.d.Front(), "r6")
	before := picture(b.s)
	b.turn(3, api.BWait, api.ErrPerm)
	b.turn(3, api.BOpen, api.ErrState) // ahead of it
	b.turn(3, 9, api.ErrState)
	if picture(b.s) != before {
		t.Error("something was written")
	}
}

// A node that is gone is a state that is unknown; its end makes it again where it may.
func TestSwitchOfWhatIsGone(t *testing.T) {
	b := makeBed(t, 3, 5, 0)
	b.remove(b.d.Front())
	b.turn(3, api.BWait, api.ErrState)
	b.turn(3, api.BInit, api.ErrPerm)
	b.setPerms("/dom/3/dev/0", "n0,w3")
	b.turn(3, api.BInit, api.OK)
	b.values("1", "1")
	b.perms(b.d.Front(), "n3")
	// No room.
	b = makeBed(t, 3, 0, 0)
	b.remove(b.d.Back())
	fill(t, b.s, api.MaxNodes)
	b.turn(0, api.BInit, api.ErrFull)
	b.remove("/fa")
	b.turn(0, api.BInit, api.OK)
	b.perms(b.d.Back(), "n0")
}

// P11.3: Step

func TestStep(t *testing.T) {
	b := makeBed(t, 1, 0, 7)
	b.step(api.BWait)
	b.step(api.BWait)
	b.values("1", "2")
	b.turn(1, api.BReady, api.OK)
	b.step(api.BOpen)
	b.step(api.BOpen)
	b.turn(1, api.BOpen, api.OK)
	b.turn(1, api.BInit, api.ErrState)
	b.step(api.BOpen)
	b.turn(1, api.BClosing, api.OK)
	b.step(api.BClosing)
	b.step(api.BClosed)
	b.step(api.BClosed)
	b.turn(1, api.BClosed, api.OK)
	b.step(api.BClosed)
	b.turn(1, api.BInit, api.OK)
	b.step(api.BInit)
	b.step(api.BWait)
	b.values("1", "2")
}

// A back end that Next sends where Allowed does not let it go stays, and no error is told.
func TestStepThatMayNotBe(t *testing.T) {
	b := makeBed(t, 1, 0, 7)
	for _, value := range []string{"4", "5", "6"} {
		b.lay(b.d.Front(), value)
		before := picture(b.s)
		b.step(api.BInit)
		if picture(b.s) != before {
			t.Error("something was written")
		}
	}
	b.lay(b.d.Front(), "3")
	b.step(api.BWait)
}

// Of each state, with each value of the front's: it goes where Next says if Allowed lets it, and writes nothing else.
func TestStepOfAll(t *testing.T) {
	b := makeBed(t, 3, 5, 0)
	values := []string{"1", "2", "3", "4", "5", "6", "", "0", "7", "9", "44", "garbage"}
	for _, own := range values {
		for _, other := range values {
			b.lay(b.d.Back(), own)
			b.lay(b.d.Front(), other)
			gen := b.s.Gen()
			state, far := bus.State([]byte(own)), bus.State([]byte(other))
			value := own
			if to := goesTo(state, far); mayGo(state, to, far) {
				state, value, gen = to, string(rune('0'+to)), gen+1
			}
			b.step(state)
			b.values(other, value)
			if b.s.Gen() != gen {
				t.Errorf("Step from %q with %q: %d changes too many", own, other, b.s.Gen()-gen)
			}
		}
	}
}

// A front end that takes itself away is unknown.
func TestStepWithNoFront(t *testing.T) {
	b := makeBed(t, 3, 5, 0)
	b.lay(b.d.Back(), "4")
	b.lay(b.d.Front(), "4")
	if e := b.s.Remove(3, 0, b.d.Front()); e != api.OK {
		t.Fatalf("Remove: %v", e)
	}
	b.step(api.BClosing)
	b.step(api.BClosed)
	b.step(api.BClosed)
	// And so is one that lets itself be read no more.
	b = makeBed(t, 3, 5, 0)
	b.lay(b.d.Back(), "4")
	b.lay(b.d.Front(), "4")
	b.s.SetPerms(3, 0, b.d.Front(), []api.Perm{{Dom: 3}})
	b.step(api.BClosing)
	b.step(api.BClosed)
	b.values("4", "6")
}

func noStep(b *bed) {
	b.t.Helper()
	before := picture(b.s)
	if is, e := b.d.Step(); is != 0 || e != api.ErrNone {
		b.t.Errorf("Step() = %d, %v", is, e)
	}
	if picture(b.s) != before {
		b.t.Error("something was written")
	}
}

// With no node of its own the back end does nothing, not even make it, also where it could.
func TestStepOfWhatIsGone(t *testing.T) {
	for _, back := range []int{0, 5} {
		for _, front := range []string{"1", "2", "3", "4", "5", "6", "x"} {
			b := makeBed(t, 3, back, 0)
			b.lay(b.d.Front(), front)
			b.remove(b.d.Back())
			noStep(b)
			b.remove(b.d.Front())
			noStep(b)
		}
	}
}

// A node of its own that it may not read or write is there: it stays as it sees itself.
func TestStepOfWhatItMayNotChange(t *testing.T) {
	b := makeBed(t, 3, 5, 0)
	b.setPerms(b.d.Back(), "r6")
	b.step(api.BInit)
	b.values("1", "1")
	b.setPerms(b.d.Back(), "n6")
	b.step(api.BUnknown)
	b.values("1", "1")
	b.lay(b.d.Back(), "4")
	b.step(api.BUnknown)
	b.values("1", "4")
	// One that it may write alone: it goes by what it sees.
	b.setPerms(b.d.Back(), "n6,w5")
	b.step(api.BUnknown)
	b.values("1", "1")
}

// Who watches an end is told where it goes, and of nothing where it stays.
func TestStepTells(t *testing.T) {
	b := makeBed(t, 1, 0, 7)
	b.s.Watch(1, b.d.Back(), "back")
	b.s.Watch(0, b.d.Front(), "front")
	b.step(api.BWait)
	if e, err := b.s.Next(1); e != (api.Event{Path: b.d.Back(), Token: "back"}) || err != api.OK {
		t.Errorf("Next(1) = %v, %v", e, err)
	}
	b.step(api.BWait)
	wantList(t, "domain 1 is told of", told(b.s, 1))
	b.turn(1, api.BReady, api.OK)
	if e, err := b.s.Next(0); e != (api.Event{Path: b.d.Front(), Token: "front"}) || err != api.OK {
		t.Errorf("Next(0) = %v, %v", e, err)
	}
	b.turn(1, api.BInit, api.ErrState)
	wantList(t, "domain 0 is told of", told(b.s, 0))
}

// P11.3: Remove

func TestRemove(t *testing.T) {
	b := makeBed(t, 1, 0, 7)
	other, _ := bus.New(b.s, 1, 0, 8)
	b.s.Watch(0, "/", "t")
	if e := b.d.Remove(); e != api.OK {
		t.Errorf("Remove: %v", e)
	}
	wantList(t, "the front's goes first", told(b.s, 0), b.d.Front(), b.d.Back())
	// The nodes above them stay, and other devices.
	wantList(t, "the nodes", b.s.Nodes(), "/", "/dom",
		"/dom/0", "/dom/0/back", "/dom/0/back/1", "/dom/0/back/1/7", "/dom/0/back/1/8", other.Back(),
		"/dom/1", "/dom/1/dev", "/dom/1/dev/7", "/dom/1/dev/8", other.Front())
	if e := b.d.Remove(); e != api.ErrNone {
		t.Errorf("Remove again: %v", e)
	}
	b.see(0, api.BUnknown, api.BUnknown)
	if b.d.Front() != "/dom/1/dev/7/state" || b.d.Back() != "/dom/0/back/1/7/state" {
		t.Error("its paths are others")
	}
}

// Both are tried, whichever errs.
func TestRemoveOfOne(t *testing.T) {
	for n := range 2 {
		b := makeBed(t, 1, 2, 7)
		name := []string{b.d.Front(), b.d.Back()}[n]
		b.remove(name)
		gen := b.s.Gen()
		if e := b.d.Remove(); e != api.ErrNone {
			t.Errorf("Remove without %s: %v", name, e)
		}
		if b.s.Gen() != gen+1 {
			t.Errorf("Remove without %s: %d changes", name, b.s.Gen()-gen)
		}
		for _, name := range []string{b.d.Front(), b.d.Back()} {
			if _, e := b.s.Read(0, 0, name); e != api.ErrNone {
				t.Errorf("%s: %v", name, e)
			}
		}
	}
}

// Domain 0 does it, whosever the nodes are, with all below them.
func TestRemoveOfOthersNodes(t *testing.T) {
	b := makeBed(t, 3, 5, 0)
	b.lay(b.d.Front()+"/x/y", "")
	b.setPerms(b.d.Front(), "n6")
	b.setPerms(b.d.Back(), "n7")
	if e := b.d.Remove(); e != api.OK {
		t.Errorf("Remove: %v", e)
	}
	for _, name := range b.s.Nodes() {
		if strings.Contains(name, "state") {
			t.Errorf("%s stands", name)
		}
	}
}

// P11.4

func TestNoDevice(t *testing.T) {
	for _, d := range []*bus.Device{nil, {}, new(bus.Device)} {
		if d.Front() != "" || d.Back() != "" {
			t.Errorf("Front() = %q, Back() = %q", d.Front(), d.Back())
		}
		for _, dom := range append([]int{0, 1, 7}, noDomains...) {
			if own, other, e := d.See(dom); own != 0 || other != 0 || e != api.ErrZero {
				t.Errorf("See(%d) = %d, %d, %v", dom, own, other, e)
			}
			for _, to := range numbers {
				if e := d.Switch(dom, to); e != api.ErrZero {
					t.Errorf("Switch(%d, %d): %v", dom, to, e)
				}
			}
		}
		if is, e := d.Step(); is != 0 || e != api.ErrZero {
			t.Errorf("Step() = %d, %v", is, e)
		}
		if e := d.Remove(); e != api.ErrZero {
			t.Errorf("Remove: %v", e)
		}
	}
}
