package bridge_test

import (
	"bytes"
	"math"
	"testing"

	"tenement/api"
	"tenement/bridge"
)

// noPorts are numbers that no port of a switch with three has.
var noPorts = []int{math.MinInt, math.MinInt + 1, math.MinInt32, -8, -2, -1, 3, 4, 7, 8, 255, 256, math.MaxInt32, math.MaxInt}

// noCredits are numbers that no burst and no rate is.
var noCredits = []int{math.MinInt, math.MinInt32, -65536, -1, api.MaxCredit + 1, 1 << 17, math.MaxInt32, math.MaxInt}

func want(t *testing.T, what string, got, e api.Errno) {
	t.Helper()
	if got != e {
		t.Errorf("%s: %v, not %v", what, got, e)
	}
}

// made is a switch whose ports may all send for long.
func made(t *testing.T, n int) *bridge.Bridge {
	t.Helper()
	b, e := bridge.New(n)
	if b == nil || e != api.OK {
		t.Fatalf("New(%d): %v, %v", n, b != nil, e)
	}
	for port := range n {
		want(t, "Rate", b.Rate(port, api.MaxCredit, 0), api.OK)
	}
	return b
}

// send sends a frame that is right.
func send(t *testing.T, b *bridge.Bridge, port int, frame ...byte) {
	t.Helper()
	want(t, "Send", b.Send(port, frame), api.OK)
}

func counts(t *testing.T, b *bridge.Bridge, port int) api.Counts {
	t.Helper()
	c, e := b.Counts(port)
	want(t, "Counts", e, api.OK)
	return c
}

func wantCounts(t *testing.T, b *bridge.Bridge, port int, is api.Counts) {
	t.Helper()
	if c, e := b.Counts(port); c != is || e != api.OK {
		t.Errorf("Counts(%d) = %+v, %v, not %+v", port, c, e, is)
	}
}

func wantCredit(t *testing.T, b *bridge.Bridge, port, is int) {
	t.Helper()
	if n := b.Credit(port); n != is {
		t.Errorf("Credit(%d) = %d, not %d", port, n, is)
	}
}

func wantKnown(t *testing.T, b *bridge.Bridge, addr, is int, e api.Errno) {
	t.Helper()
	if port, ge := b.Known(addr); port != is || ge != e {
		t.Errorf("Known(%d) = %d, %v, not %d, %v", addr, port, ge, is, e)
	}
}

func wantHead(t *testing.T, b *bridge.Bridge, port int, is []byte, e api.Errno) {
	t.Helper()
	if frame, ge := b.Head(port); !bytes.Equal(frame, is) || ge != e {
		t.Errorf("Head(%d) = %x, %v, not %x, %v", port, frame, ge, is, e)
	}
}

// wantWaiting asks for all that waits for a port, and lets it go.
func wantWaiting(t *testing.T, b *bridge.Bridge, port int, l ...[]byte) {
	t.Helper()
	for _, frame := range l {
		wantHead(t, b, port, frame, api.OK)
		want(t, "Done", b.Done(port, true), api.OK)
	}
	wantHead(t, b, port, nil, api.ErrNone)
	want(t, "Done", b.Done(port, true), api.ErrNone)
}

// picture is all that a switch tells, but for what waits behind the first one.
type picture struct {
	ports   int
	counts  [api.MaxDoms]api.Counts
	credits [api.MaxDoms]int
	heads   [api.MaxDoms]string
	known   [256]int
}

func pictureOf(b *bridge.Bridge) picture {
	p := picture{ports: b.Ports()}
	for port := range p.ports {
		p.counts[port], _ = b.Counts(port)
		p.credits[port] = b.Credit(port)
		head, _ := b.Head(port)
		p.heads[port] = string(head)
	}
	for addr := range p.known {
		port, e := b.Known(addr)
		p.known[addr] = port
		if e != api.OK {
			p.known[addr] = -1
		}
	}
	return p
}

// wantSame asks that a switch tells what it told.
func wantSame(t *testing.T, b *bridge.Bridge, was picture) {
	t.Helper()
	is := pictureOf(b)
	for port := range is.counts {
		if is.counts[port] != was.counts[port] || is.credits[port] != was.credits[port] || is.heads[port] != was.heads[port] {
			t.Errorf("port %d: %+v, credit %d, head %x, not %+v, %d, %x", port, is.counts[port], is.credits[port], is.heads[port], was.counts[port], was.credits[port], was.heads[port])
		}
	}
	for addr := range is.known {
		if is.known[addr] != was.known[addr] {
			t.Errorf("address %d is at %d, not %d", addr, is.known[addr], was.known[addr])
		}
	}
	if is.ports != was.ports {
		t.Errorf("%d ports, not %d", is.ports, was.ports)
	}
}

// busy is a switch of three ports, of whom each knows, counts and waits for something.
func busy(t *testing.T) *bridge.Bridge {
	t.Helper()
	b := made(t, 3)
	for port := range 3 {
		want(t, "Rate", b.Rate(port, 20+port, 3), api.OK)
		send(t, b, port, 255, byte(port), 7)
	}
	want(t, "Bad", b.Bad(1), api.OK)
	want(t, "Done", b.Done(2, true), api.OK)
	return b
}

// P14.1: New, Ports

func TestNew(t *testing.T) {
	for n := 1; n <= 8; n++ {
		b, e := bridge.New(n)
		if b == nil || e != api.OK {
			t.Fatalf("New(%d): %v, %v", n, b != nil, e)
		}
		if b.Ports() != n {
			t.Errorf("Ports() = %d, not %d", b.Ports(), n)
		}
		for port := range n {
			wantCredit(t, b, port, 0)
			wantCounts(t, b, port, api.Counts{})
			wantWaiting(t, b, port)
		}
		if c, e := b.Counts(n); c != (api.Counts{}) || e != api.ErrArg {
			t.Errorf("Counts(%d) of %d ports: %v, %v", n, n, c, e)
		}
		for addr := range 256 {
			wantKnown(t, b, addr, 0, api.ErrNone)
		}
	}
}

func TestNoNew(t *testing.T) {
	for _, n := range []int{math.MinInt, math.MinInt32, -8, -1, 0, 9, 10, 16, 255, 256, math.MaxInt32, math.MaxInt} {
		if b, e := bridge.New(n); b != nil || e != api.ErrArg {
			t.Errorf("New(%d): %v, %v", n, b != nil, e)
		}
	}
}

// A port that no call has given credits has none, and ticks give it none.
func TestNoCreditAtFirst(t *testing.T) {
	b, _ := bridge.New(2)
	for range 3 {
		want(t, "Send", b.Send(0, []byte{255, 1}), api.ErrFull)
		want(t, "Tick", b.Tick(), api.OK)
		wantCredit(t, b, 0, 0)
	}
	wantCounts(t, b, 0, api.Counts{Taken: 3, NoCredit: 3})
	wantCounts(t, b, 1, api.Counts{})
}

func TestNoSuchPort(t *testing.T) {
	b := busy(t)
	was := pictureOf(b)
	for _, port := range noPorts {
		want(t, "Rate", b.Rate(port, 1, 1), api.ErrArg)
		want(t, "Rate", b.Rate(port, -1, -1), api.ErrArg)
		wantCredit(t, b, port, 0)
		for _, frame := range [][]byte{nil, {1}, {1, 255}, {1, 2}, {255, 0, 9}, make([]byte, 129)} {
			want(t, "Send", b.Send(port, frame), api.ErrArg)
		}
		want(t, "Bad", b.Bad(port), api.ErrArg)
		wantHead(t, b, port, nil, api.ErrArg)
		want(t, "Done", b.Done(port, true), api.ErrArg)
		want(t, "Done", b.Done(port, false), api.ErrArg)
		want(t, "Down", b.Down(port), api.ErrArg)
		if c, e := b.Counts(port); c != (api.Counts{}) || e != api.ErrArg {
			t.Errorf("Counts(%d) = %v, %v", port, c, e)
		}
		wantSame(t, b, was)
	}
}

// P14.1: Rate, Tick, Credit

func TestRate(t *testing.T) {
	b := made(t, 3)
	for _, burst := range []int{0, 1, 2, 100, 65535, api.MaxCredit} {
		for _, rate := range []int{0, 1, 7, 65535, api.MaxCredit} {
			want(t, "Rate", b.Rate(1, burst, rate), api.OK)
			wantCredit(t, b, 1, burst)
			want(t, "Tick", b.Tick(), api.OK)
			wantCredit(t, b, 1, burst) // There's never more than the burst.
			wantCredit(t, b, 0, api.MaxCredit)
			wantCredit(t, b, 2, api.MaxCredit)
		}
	}
}

func TestNoRate(t *testing.T) {
	b := busy(t)
	was := pictureOf(b)
	for _, n := range noCredits {
		want(t, "Rate", b.Rate(0, n, 1), api.ErrArg)
		want(t, "Rate", b.Rate(1, 1, n), api.ErrArg)
		want(t, "Rate", b.Rate(2, n, n), api.ErrArg)
	}
	wantSame(t, b, was)
	for range 9 {
		b.Tick()
	}
	for port := range 3 {
		wantCredit(t, b, port, 20+port)
	}
}

// What has been sent is forgiven by a new rate, and what was saved is lost.
func TestRateSetsTheCredit(t *testing.T) {
	b := made(t, 2)
	want(t, "Rate", b.Rate(0, 10, 1), api.OK)
	send(t, b, 0, make([]byte, 9)...)
	want(t, "Rate", b.Rate(0, 10, 1), api.OK)
	wantCredit(t, b, 0, 10)
	want(t, "Rate", b.Rate(0, 3, 0), api.OK)
	wantCredit(t, b, 0, 3)
	want(t, "Send", b.Send(0, make([]byte, 4)), api.ErrFull)
	want(t, "Rate", b.Rate(0, 0, 9), api.OK)
	wantCredit(t, b, 0, 0)
	b.Tick()
	wantCredit(t, b, 0, 0)
	want(t, "Send", b.Send(0, make([]byte, 2)), api.ErrFull)
}

func TestTick(t *testing.T) {
	b := made(t, 4)
	for port, c := range [][2]int{{20, 3}, {20, 0}, {20, 20}, {9, api.MaxCredit}} {
		want(t, "Rate", b.Rate(port, c[0], c[1]), api.OK)
		send(t, b, port, make([]byte, 9)...)
	}
	for _, l := range [][4]int{{11, 11, 11, 0}, {14, 11, 20, 9}, {17, 11, 20, 9}, {20, 11, 20, 9}, {20, 11, 20, 9}} {
		for port, credit := range l {
			wantCredit(t, b, port, credit)
		}
		want(t, "Tick", b.Tick(), api.OK)
	}
	// The last tick's part that is above the burst is lost.
	send(t, b, 0, make([]byte, 2)...)
	b.Tick()
	wantCredit(t, b, 0, 20)
	for port := range 4 {
		if c := counts(t, b, port); c.Taken != c.Forwarded || c.Taken != 1 && port != 0 {
			t.Errorf("ticks have been counted: %+v", c)
		}
	}
}

// P14.2: what is malformed

func TestMalformed(t *testing.T) {
	b := busy(t)
	for i, frame := range [][]byte{nil, {}, {0}, {255}, {1, 255}, {255, 255}, {0, 255, 0}, append([]byte{0, 255}, make([]byte, 126)...), make([]byte, 129), make([]byte, 130), make([]byte, 256), make([]byte, 1<<16)} {
		was := pictureOf(b)
		want(t, "Send", b.Send(1, frame), api.ErrForm)
		if c := counts(t, b, 1); c.Malformed != i+2 {
			t.Errorf("Malformed is %d, not %d", c.Malformed, i+2)
		}
		was.counts[1].Taken++
		was.counts[1].Malformed++
		wantSame(t, b, was)
	}
}

// Which bytes a frame has beside the one that tells where it comes from does not make it malformed.
func TestEachFromAndTo(t *testing.T) {
	for x := range 256 {
		b := made(t, 2)
		if e := b.Send(0, []byte{9, byte(x)}); (e == api.ErrForm) != (x == 255) || (e == api.OK) != (x != 255) {
			t.Errorf("from %d: %v", x, e)
		}
		want(t, "Send", b.Send(1, []byte{byte(x), 9, 255, byte(x)}), api.OK)
	}
}

func TestLeastAndMost(t *testing.T) {
	b := made(t, 2)
	send(t, b, 0, 1, 2)
	long := bytes.Repeat([]byte{0xab}, 128)
	long[0] = 255
	send(t, b, 0, long...)
	wantWaiting(t, b, 1, []byte{1, 2}, long)
	want(t, "Send", b.Send(0, append(long, 1)), api.ErrForm)
	wantCredit(t, b, 0, api.MaxCredit-130)
}

// What is malformed is so also where the credit does not do.
func TestMalformedAheadOfCredit(t *testing.T) {
	b, _ := bridge.New(1)
	want(t, "Send", b.Send(0, []byte{1, 255}), api.ErrForm)
	want(t, "Send", b.Send(0, make([]byte, 129)), api.ErrForm)
	want(t, "Send", b.Send(0, nil), api.ErrForm)
	wantCounts(t, b, 0, api.Counts{Taken: 3, Malformed: 3})
}

// P14.2: Bad

func TestBad(t *testing.T) {
	b := busy(t)
	for i := range 3 {
		was := pictureOf(b)
		want(t, "Bad", b.Bad(i), api.OK)
		was.counts[i].Taken++
		was.counts[i].Malformed++
		wantSame(t, b, was)
	}
}

// P14.2: credits

func TestCredit(t *testing.T) {
	for size := 2; size <= 128; size++ {
		b := made(t, 2)
		frame := make([]byte, size)
		want(t, "Rate", b.Rate(0, size-1, 1), api.OK)
		was := pictureOf(b)
		want(t, "Send", b.Send(0, frame), api.ErrFull)
		was.counts[0] = api.Counts{Taken: 1, NoCredit: 1}
		wantSame(t, b, was) // Nor is anything learnt.
		want(t, "Rate", b.Rate(0, size, 1), api.OK)
		want(t, "Send", b.Send(0, frame), api.OK)
		wantCredit(t, b, 0, 0)
		want(t, "Send", b.Send(0, frame[:2]), api.ErrFull)
		wantCounts(t, b, 0, api.Counts{Taken: 3, Forwarded: 1, NoCredit: 2})
	}
}

// A frame that goes to many or to none is paid once.
func TestPaidOnce(t *testing.T) {
	b := made(t, 8)
	want(t, "Rate", b.Rate(3, 100, 0), api.OK)
	send(t, b, 3, 255, 1, 0, 0, 0)
	wantCredit(t, b, 3, 95)
	send(t, b, 3, 1, 1, 0)
	wantCredit(t, b, 3, 92)
	for port := range 8 {
		if port != 3 {
			wantCredit(t, b, port, api.MaxCredit)
		}
	}
}

// P14.2: learning

func TestLearn(t *testing.T) {
	b := made(t, 3)
	for addr := range 64 {
		send(t, b, addr%3, 255, byte(addr*3))
	}
	for addr := range 256 {
		if addr%3 == 0 && addr < 192 {
			wantKnown(t, b, addr, addr/3%3, api.OK)
		} else {
			wantKnown(t, b, addr, 0, api.ErrNone)
		}
	}
}

// Where a frame goes to is not learnt.
func TestNotLearntByWhereItGoes(t *testing.T) {
	b := made(t, 2)
	send(t, b, 1, 5, 6, 7, 8)
	wantKnown(t, b, 6, 1, api.OK)
	for _, addr := range []int{5, 7, 8, 255} {
		wantKnown(t, b, addr, 0, api.ErrNone)
	}
}

func TestWhoMovesIsLearntAnew(t *testing.T) {
	b := made(t, 3)
	for _, port := range []int{0, 2, 1, 1, 0} {
		send(t, b, port, 255, 7)
		wantKnown(t, b, 7, port, api.OK)
	}
	send(t, b, 1, 255, 7)
	was := counts(t, b, 0).Directed
	send(t, b, 2, 7, 9)
	if counts(t, b, 0).Directed != was {
		t.Error("a frame was directed to where the address had been")
	}
}

// With as many known as may be no other is learnt, but those that are known move, and one that is forgotten leaves room.
func TestLearnUpToMost(t *testing.T) {
	b := made(t, 3)
	for addr := range 63 {
		send(t, b, 0, 255, byte(addr))
	}
	send(t, b, 1, 255, 200)
	wantKnown(t, b, 200, 1, api.OK)
	for _, addr := range []byte{63, 64, 201, 254} {
		was := counts(t, b, 2)
		send(t, b, 1, 255, addr)
		wantKnown(t, b, int(addr), 0, api.ErrNone)
		if c := counts(t, b, 2); c.Directed != was.Directed+1 {
			t.Error("a frame of one that isn't learnt was not directed")
		}
	}
	send(t, b, 2, 255, 0)
	wantKnown(t, b, 0, 2, api.OK)
	send(t, b, 2, 255, 200)
	wantKnown(t, b, 200, 2, api.OK)
	send(t, b, 1, 255, 63)
	wantKnown(t, b, 63, 0, api.ErrNone)
	want(t, "Down", b.Down(2), api.OK)
	for _, addr := range []byte{63, 64} {
		send(t, b, 1, 255, addr)
		wantKnown(t, b, int(addr), 1, api.OK)
	}
	send(t, b, 1, 255, 65)
	wantKnown(t, b, 65, 0, api.ErrNone)
}

// P14.2: directing

// From each port, with an address known at each or at none.
func TestDirected(t *testing.T) {
	for n := 1; n <= 8; n++ {
		for from := range n {
			for at := -1; at < n; at++ {
				b := made(t, n)
				if at >= 0 {
					send(t, b, at, 77, 77) // To none: it is known there by now.
				}
				frame := []byte{77, 5, byte(from)}
				send(t, b, from, frame...)
				for port := range n {
					if port != from && (at == -1 || at == port) {
						if c := counts(t, b, port); c.Directed != 1 || c.Queued != 1 {
							t.Errorf("from %d of %d, known at %d: port %d has %+v", from, n, at, port, c)
						}
						wantWaiting(t, b, port, frame)
					} else if c := counts(t, b, port); c.Directed != 0 || c.Queued != 0 {
						t.Errorf("from %d of %d, known at %d: port %d has %+v", from, n, at, port, c)
					}
				}
			}
		}
	}
}

// What goes to everybody goes to all other ports, however many addresses are known, and where.
func TestToEverybody(t *testing.T) {
	for _, most := range []int{0, 1, 64, 100} {
		b := made(t, 4)
		for addr := range most {
			send(t, b, 2, 254, byte(addr))
		}
		for port := range 4 {
			b.Down(port)
			send(t, b, port, byte(port), byte(port))
		}
		send(t, b, 1, 255, 254)
		for port := range 4 {
			if port == 1 {
				wantWaiting(t, b, port)
			} else {
				wantWaiting(t, b, port, []byte{255, 254})
			}
		}
	}
}

// Where a frame comes from is learnt ahead of its being directed.
func TestLearntAheadOfDirected(t *testing.T) {
	b := made(t, 3)
	send(t, b, 1, 9, 9)
	send(t, b, 2, 9, 9) // It was known at port 1.
	for port := range 3 {
		wantWaiting(t, b, port)
		if c := counts(t, b, port); c.Directed != 0 {
			t.Errorf("Directed is %d", c.Directed)
		}
	}
	wantKnown(t, b, 9, 2, api.OK)
}

// One that could not be learnt is not known, not even to its own frame.
func TestNotLearntIsNotKnown(t *testing.T) {
	b := made(t, 2)
	for addr := range 64 {
		send(t, b, 0, 0, byte(addr))
	}
	send(t, b, 0, 100, 100)
	wantWaiting(t, b, 1, []byte{100, 100})
}

// P14.2: queues

func TestFullQueue(t *testing.T) {
	b := made(t, 3)
	var l [][]byte
	for i := range 7 {
		l = append(l, []byte{255, 1, byte(i)})
		if i == 2 {
			want(t, "Done", b.Done(2, true), api.OK)
		}
		send(t, b, 0, l[i]...)
	}
	wantCounts(t, b, 0, api.Counts{Taken: 7, Forwarded: 7})
	wantCounts(t, b, 1, api.Counts{Directed: 7, Queued: 4, RingFull: 3})
	wantCounts(t, b, 2, api.Counts{Directed: 7, Queued: 4, RingFull: 2, Delivered: 1})
	wantWaiting(t, b, 1, l[:4]...)
	wantWaiting(t, b, 2, l[1:5]...)
	wantCounts(t, b, 1, api.Counts{Directed: 7, Delivered: 4, RingFull: 3})
	send(t, b, 0, l[6]...) // There is room again.
	wantWaiting(t, b, 1, l[6])
}

// One port's full queue is no other's, and it costs the sender as much.
func TestFullForOneAlone(t *testing.T) {
	b := made(t, 3)
	send(t, b, 1, 1, 1)
	for range 5 {
		send(t, b, 0, 1, 0)
	}
	was := b.Credit(0)
	send(t, b, 0, 255, 0)
	wantCredit(t, b, 0, was-2)
	wantCounts(t, b, 1, api.Counts{Taken: 1, Forwarded: 1, Directed: 6, Queued: 4, RingFull: 2})
	wantCounts(t, b, 2, api.Counts{Directed: 1, Queued: 1})
	wantCounts(t, b, 0, api.Counts{Taken: 6, Forwarded: 6})
}

// What is taken out and put in by turns keeps its order.
func TestQueueKeepsItsOrder(t *testing.T) {
	b := made(t, 2)
	in, out := byte(0), byte(0)
	for _, c := range [][2]int{{3, 2}, {3, 4}, {4, 1}, {1, 3}, {3, 4}, {1, 1}, {4, 4}} {
		for range c[0] {
			send(t, b, 0, 255, 1, in)
			in++
		}
		for range c[1] {
			wantHead(t, b, 1, []byte{255, 1, out}, api.OK)
			want(t, "Done", b.Done(1, out%2 == 0), api.OK)
			out++
		}
	}
	wantWaiting(t, b, 1)
}

// P4: what waits is a copy, one of its own for each port and each answer.
func TestCopies(t *testing.T) {
	b := made(t, 4)
	frame := []byte{255, 1, 2, 3}
	send(t, b, 0, frame...)
	want(t, "Send", b.Send(3, frame), api.OK)
	if !bytes.Equal(frame, []byte{255, 1, 2, 3}) {
		t.Errorf("Send has changed what it was given: %x", frame)
	}
	clear(frame)
	for port := 1; port < 3; port++ {
		for range 2 {
			head, _ := b.Head(port)
			if !bytes.Equal(head, []byte{255, 1, 2, 3}) {
				t.Errorf("Head(%d) = %x", port, head)
			}
			clear(head)
			clear(head[:cap(head)])
			_ = append(head, 9, 9, 9, 9)
		}
		wantWaiting(t, b, port, []byte{255, 1, 2, 3}, []byte{255, 1, 2, 3})
	}
	wantWaiting(t, b, 0, []byte{255, 1, 2, 3})
	wantWaiting(t, b, 3, []byte{255, 1, 2, 3})
}

// P14.3: Head, Done

func TestHead(t *testing.T) {
	b := busy(t)
	was := pictureOf(b)
	for range 3 {
		wantHead(t, b, 0, []byte{255, 1, 7}, api.OK)
		wantHead(t, b, 1, []byte{255, 0, 7}, api.OK)
		wantHead(t, b, 2, []byte{255, 1, 7}, api.OK)
	}
	wantSame(t, b, was)
}

func TestDone(t *testing.T) {
	b := made(t, 2)
	for i := range 4 {
		send(t, b, 0, 255, 1, byte(i))
	}
	for i, c := range []api.Counts{
		{Directed: 4, Queued: 3, Delivered: 1},
		{Directed: 4, Queued: 2, Delivered: 1, NoBuffer: 1},
		{Directed: 4, Queued: 1, Delivered: 1, NoBuffer: 2},
		{Directed: 4, Delivered: 2, NoBuffer: 2},
	} {
		wantHead(t, b, 1, []byte{255, 1, byte(i)}, api.OK)
		want(t, "Done", b.Done(1, i == 0 || i == 3), api.OK)
		wantCounts(t, b, 1, c)
	}
	was := pictureOf(b)
	for range 2 {
		for port := range 2 {
			want(t, "Done", b.Done(port, true), api.ErrNone)
			want(t, "Done", b.Done(port, false), api.ErrNone)
			wantHead(t, b, port, nil, api.ErrNone)
		}
	}
	wantSame(t, b, was)
}

// P14.3: Known

func TestNoKnown(t *testing.T) {
	b := made(t, 2)
	for addr := range 64 {
		send(t, b, 1, 255, byte(addr*4))
	}
	for _, addr := range []int{math.MinInt, math.MinInt32, -256, -252, -4, -1, 256, 260, 512, 1 << 16, 1 << 32, math.MaxInt} {
		wantKnown(t, b, addr, 0, api.ErrArg)
	}
	wantKnown(t, b, 0, 1, api.OK)
	wantKnown(t, b, 252, 1, api.OK)
	wantKnown(t, b, 254, 0, api.ErrNone)
	wantKnown(t, b, 255, 0, api.ErrNone)
}

// P14.3: Down

func TestDown(t *testing.T) {
	b := made(t, 3)
	for port := range 3 {
		want(t, "Rate", b.Rate(port, 100+port, 5), api.OK)
	}
	for i := range 15 {
		send(t, b, i%3, 255, byte(i), byte(i))
	}
	want(t, "Done", b.Done(1, true), api.OK)
	was := pictureOf(b)
	want(t, "Down", b.Down(1), api.OK)
	is := was
	is.counts[1].NoBuffer += 3
	is.counts[1].Queued = 0
	is.heads[1] = ""
	for addr := range is.known {
		if is.known[addr] == 1 {
			is.known[addr] = -1
		}
	}
	if is == was || was.counts[1].Queued != 3 || was.known[13] != 1 {
		t.Errorf("not as it was to be ahead of Down: %+v, address 13 at %d", was.counts[1], was.known[13])
	}
	wantSame(t, b, is)
	want(t, "Down", b.Down(1), api.OK)
	wantSame(t, b, is)
	// It's a port still, with its credits.
	b.Tick()
	wantCredit(t, b, 1, 101-10)
	send(t, b, 1, 255, 1, 9)
	wantKnown(t, b, 1, 1, api.OK)
	send(t, b, 0, 1, 0)
	wantWaiting(t, b, 1, []byte{1, 0})
}

// What a port has sent waits on where it went to, though the port is down.
func TestDownOfWhoHasSent(t *testing.T) {
	b := made(t, 2)
	send(t, b, 0, 255, 1, 9)
	want(t, "Down", b.Down(0), api.OK)
	wantWaiting(t, b, 1, []byte{255, 1, 9})
	wantKnown(t, b, 1, 0, api.ErrNone)
	wantCounts(t, b, 0, api.Counts{Taken: 1, Forwarded: 1})
}

// Who was forgotten is sought at all ports.
func TestDownFloods(t *testing.T) {
	b := made(t, 3)
	send(t, b, 0, 4, 4)
	send(t, b, 1, 4, 5)
	wantWaiting(t, b, 0, []byte{4, 5})
	want(t, "Down", b.Down(0), api.OK)
	send(t, b, 1, 4, 5)
	wantWaiting(t, b, 0, []byte{4, 5})
	wantWaiting(t, b, 2, []byte{4, 5})
}

// P14.4

func TestNotMade(t *testing.T) {
	for _, b := range []*bridge.Bridge{nil, {}, new(bridge.Bridge)} {
		if b.Ports() != 0 {
			t.Errorf("Ports() = %d", b.Ports())
		}
		want(t, "Tick", b.Tick(), api.ErrZero)
		for _, n := range append(noPorts, 0, 1, 2) {
			wantCredit(t, b, n, 0)
			want(t, "Rate", b.Rate(n, 0, 0), api.ErrZero)
			want(t, "Rate", b.Rate(0, n, n), api.ErrZero)
			for _, frame := range [][]byte{nil, {1, 255}, {1, 2}, make([]byte, 129)} {
				want(t, "Send", b.Send(n, frame), api.ErrZero)
			}
			want(t, "Bad", b.Bad(n), api.ErrZero)
			wantHead(t, b, n, nil, api.ErrZero)
			want(t, "Done", b.Done(n, true), api.ErrZero)
			wantKnown(t, b, n, 0, api.ErrZero)
			want(t, "Down", b.Down(n), api.ErrZero)
			if c, e := b.Counts(n); c != (api.Counts{}) || e != api.ErrZero {
				t.Errorf("Counts(%d) = %v, %v", n, c, e)
			}
		}
	}
}

// The chapter's examples

func TestExamples(t *testing.T) {
	b, e := bridge.New(3)
	want(t, "New", e, api.OK)
	want(t, "Rate", b.Rate(0, 10, 4), api.OK)
	send(t, b, 0, 255, 1, 9)
	wantCounts(t, b, 0, api.Counts{Taken: 1, Forwarded: 1})
	wantCounts(t, b, 1, api.Counts{Directed: 1, Queued: 1})
	wantCounts(t, b, 2, api.Counts{Directed: 1, Queued: 1})
	wantKnown(t, b, 1, 0, api.OK)
	want(t, "Rate", b.Rate(1, 9, 0), api.OK)
	send(t, b, 1, 1, 2)
	wantCounts(t, b, 0, api.Counts{Taken: 1, Forwarded: 1, Directed: 1, Queued: 1})
	wantCounts(t, b, 1, api.Counts{Taken: 1, Forwarded: 1, Directed: 1, Queued: 1})
	wantCounts(t, b, 2, api.Counts{Directed: 1, Queued: 1})
	was := pictureOf(b)
	send(t, b, 1, 2, 2)
	was.counts[1].Taken, was.counts[1].Forwarded, was.credits[1] = 2, 2, 5
	wantSame(t, b, was)
	want(t, "Send", b.Send(0, make([]byte, 8)), api.ErrFull)
	wantCredit(t, b, 0, 7)
	want(t, "Tick", b.Tick(), api.OK)
	wantCredit(t, b, 0, 10)
	send(t, b, 0, make([]byte, 8)...)
	wantCredit(t, b, 0, 2)
}
