package cons_test

import (
	"math"
	"slices"
	"strconv"
	"strings"
	"testing"

	"tenement/api"
	"tenement/cons"
	"tenement/phys"
	"tenement/view"
)

// Frames of a test's machine.
const (
	table = 0 // domain 1's, a page table
	page  = 1 // domain 0's: the console's
	free  = 2 // nobody's
	size  = 3
)

// Numbers of frames that no machine can have.
var noFrames = []int{math.MinInt, api.Hyper, -1, api.MaxFrames, math.MaxInt}

// machine is one of size frames.
func machine(t *testing.T) *phys.Machine {
	t.Helper()
	m, e := phys.New(size)
	if e != api.OK {
		t.Fatalf("phys.New: %v", e)
	}
	for mfn, owner := range []int{1, 0} {
		if n, e := m.Alloc(owner); n != mfn || e != api.OK {
			t.Fatalf("Alloc = %d, %v", n, e)
		}
	}
	want(t, "Get", m.Get(table, 1, api.KL1), api.OK)
	return m
}

func look(t *testing.T, m *phys.Machine, l ...api.Poke) *view.View {
	t.Helper()
	v, e := view.New(m, l)
	if e != api.OK {
		t.Fatalf("view.New: %v", e)
	}
	return v
}

func console(t *testing.T, mfn int) *cons.Console {
	t.Helper()
	c, e := cons.New(mfn)
	if c == nil || e != api.OK {
		t.Fatalf("New(%d): %v", mfn, e)
	}
	return c
}

func want(t *testing.T, what string, got, e api.Errno) {
	t.Helper()
	if got != e {
		t.Errorf("%s: %v, not %v", what, got, e)
	}
}

// all are the bytes of all frames.
func all(m *phys.Machine) string {
	var b []byte
	for mfn := range m.Size() {
		one, _ := m.Read(mfn, 0, api.PageBytes)
		b = append(b, one...)
	}
	return string(b)
}

// bed is a console and its page, and what looks at that.
type bed struct {
	t *testing.T
	m *phys.Machine
	v *view.View
	c *cons.Console
}

func makeBed(t *testing.T, l ...api.Poke) *bed {
	t.Helper()
	m := machine(t)
	return &bed{t, m, look(t, m, l...), console(t, page)}
}

// view lets the next calls have other rewrites.
func (x *bed) view(l ...api.Poke) { x.t.Helper(); x.v = look(x.t, x.m, l...) }

// write does what a guest, or somebody hostile, does to the page.
func (x *bed) write(off int, b ...byte) {
	x.t.Helper()
	want(x.t, "Write", x.m.Write(page, off, b), api.OK)
}

// tell lays one of the page's numbers.
func (x *bed) tell(off, n int) { x.t.Helper(); x.write(off, word(n)...) }

func word(n int) []byte { return []byte{byte(n), byte(n >> 8)} }

// told asks for one of the page's numbers.
func (x *bed) told(off, n int) {
	x.t.Helper()
	x.bytes(off, word(n)...)
}

func (x *bed) bytes(off int, b ...byte) {
	x.t.Helper()
	if is, e := x.m.Read(page, off, len(b)); !slices.Equal(is, b) || e != api.OK {
		x.t.Errorf("at %d stands %x, %v, not %x", off, is, e, b)
	}
}

// put does what a guest does that behaves well, whose number was n: it lays bytes, and tells how many there are by then.
func (x *bed) put(n int, b ...byte) {
	x.t.Helper()
	for i, one := range b {
		x.write(16+(n+i)%128, one)
	}
	x.tell(0, n+len(b))
}

func (x *bed) drain(n int, clamped bool) {
	x.t.Helper()
	if is, c, e := x.c.Drain(x.v); is != n || c != clamped || e != api.OK {
		x.t.Errorf("Drain = %d, %v, %v, not %d, %v", is, c, e, n, clamped)
	}
}

func (x *bed) feed(n int, b ...byte) {
	x.t.Helper()
	if is, e := x.c.Feed(x.v, b); is != n || e != api.OK {
		x.t.Errorf("Feed of %d bytes = %d, %v, not %d", len(b), is, e, n)
	}
}

// reads asks for how many there were.
func (x *bed) reads(n int) {
	x.t.Helper()
	if x.v.Reads() != n {
		x.t.Errorf("%d reads, not %d", x.v.Reads(), n)
	}
}

// lines asks for all lines, and behind them for the rest.
func (x *bed) lines(l ...string) {
	x.t.Helper()
	is := append(x.c.Lines(), x.c.Rest())
	if !slices.Equal(is, l) {
		x.t.Errorf("Lines and Rest are %q, not %q", is, l)
	}
}

// count makes n bytes, each of which tells its place in the greater ring.
func count(from, n int) []byte {
	b := make([]byte, n)
	for i := range b {
		b[i] = byte(128 + (from+i)%128)
	}
	return b
}

// raw are the bytes of all lines and the rest, with what ended them.
func raw(c *cons.Console) string {
	var all strings.Builder
	for _, s := range c.Lines() {
		line := unshow(s)
		all.WriteString(line)
		if len(line) < api.MaxLine {
			all.WriteString("\n")
		}
	}
	return all.String() + unshow(c.Rest())
}

// unshow undoes Show.
func unshow(s string) string {
	var b strings.Builder
	for s != "" {
		n := 1
		switch {
		case strings.HasPrefix(s, `\\`):
			n = 2
			b.WriteByte('\\')
		case s[0] == '\\':
			n = 4
			one, _ := strconv.ParseUint(s[2:4], 16, 8)
			b.WriteByte(byte(one))
		default:
			b.WriteByte(s[0])
		}
		s = s[n:]
	}
	return b.String()
}

// dice makes numbers by a fixed rule.
type dice uint32

func (d *dice) of(l ...int) int {
	*d = *d*1664525 + 1013904223
	return l[int(*d>>16)%len(l)]
}
