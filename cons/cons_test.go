package cons_test

import (
	"bytes"
	"fmt"
	"slices"
	"strings"
	"testing"

	"tenement/api"
	"tenement/cons"
	"tenement/phys"
	"tenement/view"
)

// P16.2

func TestNew(t *testing.T) {
	for mfn := range api.MaxFrames {
		c := console(t, mfn)
		if c.Mfn() != mfn || c.Lines() != nil || c.Rest() != "" {
			t.Errorf("a new console at %d has %d, %q, %q", mfn, c.Mfn(), c.Lines(), c.Rest())
		}
	}
	for _, mfn := range append(noFrames, api.MaxFrames+1, -3) {
		if c, e := cons.New(mfn); c != nil || e != api.ErrArg {
			t.Errorf("New(%d) = %v, %v", mfn, c != nil, e)
		}
	}
}

func TestExamples(t *testing.T) {
	if s := cons.Show([]byte{0x61, 0x0a, 0xc3, 0xa9, 0xff, 0x5c}); s != `a\x0aé\xff\\` {
		t.Errorf("Show = %s", s)
	}
	x := makeBed(t)
	x.put(0, 'h', 'i', 10)
	x.drain(3, false)
	x.lines("hi", "")
	x = makeBed(t)
	x.tell(0, 300)
	x.drain(128, true)
}

func TestDrain(t *testing.T) {
	x := makeBed(t)
	x.drain(0, false)
	x.lines("")
	x.put(0, []byte("one\ntw")...)
	x.drain(6, false)
	x.told(2, 6)
	x.lines("one", "tw")
	x.drain(0, false)
	x.lines("one", "tw")
	x.put(6, []byte("o\n\n\\\x1bthree")...)
	x.drain(10, false)
	x.told(2, 16)
	x.lines("one", "two", "", `\\\x1bthree`)
}

// at is a bed whose console has taken n bytes of no line's end, and its page holds all else as it was.
func at(t *testing.T, n int) *bed {
	t.Helper()
	x := makeBed(t)
	for taken := 0; taken < n; {
		step := min(n-taken, 128)
		taken += step
		x.tell(0, taken)
		x.drain(step, false)
	}
	return x
}

// From each place all numbers of bytes, with what their place in the ring tells; the reads are counted.
func TestDrainFromEachPlace(t *testing.T) {
	starts := []int{1000, 32767, 65535 - 127, 65535 - 63, 65535, 65536, 65537}
	for place := range 129 {
		starts = append(starts, place)
	}
	for _, start := range starts {
		for _, n := range []int{0, 1, 2, 27, 63, 64, 65, 126, 127, 128} {
			x := at(t, start)
			x.write(16, count(128, 128)...)
			was, old := all(x.m), raw(x.c)
			x.tell(0, start+n)
			x.view()
			x.drain(n, false)
			x.told(2, start+n)
			if is := strings.TrimPrefix(raw(x.c), old); is != string(count(start, n)) {
				t.Fatalf("%d bytes from %d on are %q", n, start, is)
			}
			reads := 2
			if start%128+n > 128 {
				reads = 3
			}
			x.reads(reads)
			x.tell(0, start)
			x.tell(2, start)
			if all(x.m) != was {
				t.Fatal("something else was written")
			}
		}
	}
}

// All numbers that a guest can tell, to a daemon that has taken none or some.
func TestDrainOfAnyNumber(t *testing.T) {
	for _, start := range []int{0, 1, 200, 65535} {
		x := at(t, start)
		for index := range 65536 {
			// Another console each time would take too long, so that this one is brought on by whatever it takes.
			ahead := (index - start + 65536) % 65536
			n := min(ahead, 128)
			x.tell(0, index)
			x.view()
			x.drain(n, ahead > 128)
			start = (start + n) % 65536
			x.told(2, start)
			if t.Failed() {
				t.Fatalf("number %d", index)
			}
		}
	}
	for ahead := range 65536 {
		if ahead > 140 && ahead < 65400 && ahead%97 > 0 {
			continue
		}
		x := makeBed(t)
		x.tell(0, ahead)
		x.drain(min(ahead, 128), ahead > 128)
		x.told(2, min(ahead, 128))
	}
}

// What is clamped is taken first, from where the daemon is; the guest's number stays as it is, and more comes of it.
func TestDrainTakesOnAfterAClamp(t *testing.T) {
	x := makeBed(t)
	x.write(16, count(0, 128)...)
	x.tell(0, 300)
	for _, n := range []int{128, 128, 44, 0} {
		x.drain(n, n == 128)
	}
	x.told(0, 300)
	x.told(2, 300)
	if is := raw(x.c); is != string(count(0, 300)) {
		t.Errorf("taken were %q", is)
	}
}

func TestLines(t *testing.T) {
	a := strings.Repeat("a", api.MaxLine)
	for text, l := range map[string][]string{
		"":                      {""},
		"\n":                    {"", ""},
		"\n\n":                  {"", "", ""},
		"a":                     {"a"},
		"a\n":                   {"a", ""},
		"a\r\nb":                {`a\x0d`, "b"},
		a[1:]:                   {a[1:]},
		a[1:] + "\n":            {a[1:], ""},
		a[1:] + "b":             {a[1:] + "b", ""},
		a:                       {a, ""},
		a + "\n":                {a, "", ""},
		a + "b":                 {a, "b"},
		a + "b\nc":              {a, "b", "c"},
		a + a:                   {a, a, ""},
		"b" + a:                 {"b" + a[1:], "a"},
		"b\n" + a:               {"b", a, ""},
		a[1:] + "\u00e9":        {a[1:] + `\xc3`, `\xa9`},
		a[2:] + "\u00e9":        {a[2:] + "\u00e9", ""},
		"\xc3\n\xa9":            {`\xc3`, `\xa9`},
		strings.Repeat(a, 9):    {a, a, a, a, a, a, a, a, a, ""},
		strings.Repeat("\\", 8): {strings.Repeat("\\", 16)},
		"\u00e9\n\u20ac\n\\\n":  {"\u00e9", "\u20ac", `\\`, ""},
	} {
		// However the bytes come, the lines are the same.
		for _, step := range []int{1, 2, 3, 100, 128} {
			x := makeBed(t)
			for n := 0; n < len(text); n += step {
				one := text[n:min(n+step, len(text))]
				x.put(n, []byte(one)...)
				x.drain(len(one), false)
			}
			x.lines(l...)
			if t.Failed() {
				t.Fatalf("of %q, in steps of %d", text, step)
			}
		}
	}
}

// A ring of line ends alone gives as many lines as it has bytes, and none is lost later on.
func TestManyLines(t *testing.T) {
	x := makeBed(t)
	x.write(16, bytes.Repeat([]byte{10}, 128)...)
	n := 0
	for range 600 {
		n += 128
		x.tell(0, n)
		x.drain(128, false)
		if len(x.c.Lines()) != n || x.c.Rest() != "" {
			t.Fatalf("%d lines of %d bytes", len(x.c.Lines()), n)
		}
	}
}

func TestRestIsShownAsItIsByThen(t *testing.T) {
	x := makeBed(t)
	for n, b := range []byte{0xe2, 0x82, 0xac} {
		x.put(n, b)
		x.drain(1, false)
		x.lines([]string{`\xe2`, `\xe2\x82`, "\u20ac"}[n])
	}
	x.put(3, 10)
	x.drain(1, false)
	x.lines("\u20ac", "")
}

func TestFeed(t *testing.T) {
	x := makeBed(t)
	x.feed(0)
	x.told(6, 0)
	x.feed(3, 'a', 'b', 10)
	x.bytes(160, 'a', 'b', 10, 0)
	x.told(6, 3)
	x.tell(4, 2)
	x.feed(63, count(0, 70)...)
	x.told(6, 66)
	x.bytes(160, append(count(61, 2), append([]byte{10}, count(0, 61)...)...)...)
	x.feed(0, 'c')
	x.tell(4, 66)
	x.feed(1, 'c')
	x.bytes(160, count(61, 1)...)
	x.bytes(162, 'c')
	x.told(6, 67)
	x.tell(4, 68)
	x.feed(0, 'd')
	x.told(6, 67)
	x.lines("")
}

// From each place, with each room, each number of bytes; nothing else of the machine changes.
func TestFeedFromEachPlace(t *testing.T) {
	starts := []int{1000, 65535 - 63, 65535 - 5, 65535, 65536, 65537}
	for place := range 65 {
		starts = append(starts, place)
	}
	for _, start := range starts {
		for _, filled := range []int{0, 1, 31, 62, 63, 64} {
			for _, n := range []int{0, 1, 2, 33, 63, 64, 65, 200, 1000} {
				feedOne(t, start, filled, n)
			}
		}
	}
}

// feedOne brings a console to where its guest has taken in so many bytes, and so many more wait for it; then it feeds n bytes.
func feedOne(t *testing.T, start, filled, n int) {
	t.Helper()
	x := makeBed(t)
	put := 0
	for put < start+filled {
		x.tell(4, put)
		step := min(start+filled-put, 64)
		x.feed(step, make([]byte, step)...)
		put += step
	}
	x.tell(4, start)
	ring := bytes.Repeat([]byte{1}, 64)
	x.write(160, ring...)
	was := all(x.m)
	room := min(n, 64-filled)
	fed := bytes.Repeat([]byte{7, 8, 9}, n)[:n]
	for i := range room {
		ring[(put+i)%64] = fed[i]
	}
	x.view()
	x.feed(room, fed...)
	x.reads(1)
	x.told(6, put+room)
	x.bytes(160, ring...)
	x.write(160, bytes.Repeat([]byte{1}, 64)...)
	x.tell(6, put)
	if all(x.m) != was {
		t.Error("something else was written")
	}
	if !bytes.Equal(fed, bytes.Repeat([]byte{7, 8, 9}, n)[:n]) {
		t.Error("what was fed has changed")
	}
	if t.Failed() {
		t.Fatalf("%d bytes at %d with %d waiting", n, start, filled)
	}
}

// All numbers that a guest can tell, to a daemon that has put in none or some.
func TestFeedOfAnyNumber(t *testing.T) {
	for _, put := range []int{0, 1, 64, 200, 65535} {
		x := makeBed(t)
		for n := 0; n < put; n += 64 {
			x.tell(4, n)
			x.feed(min(64, put-n), make([]byte, min(64, put-n))...)
		}
		for taken := range 65536 {
			waiting := (put - taken + 65536) % 65536
			room := max(64-waiting, 0)
			x.tell(4, taken)
			x.view()
			x.feed(min(room, 1), 'x')
			put += min(room, 1)
			x.told(6, put)
			if t.Failed() {
				t.Fatalf("number %d", taken)
			}
		}
	}
}

// The two rings have nothing to do with one another.
func TestRingsAreTwo(t *testing.T) {
	x := makeBed(t)
	x.put(0, []byte("out")...)
	x.feed(2, 'i', 'n')
	x.told(0, 3)
	x.told(2, 0)
	x.told(4, 0)
	x.drain(3, false)
	x.told(6, 2)
	x.told(2, 3)
	x.feed(1, '!')
	x.bytes(160, 'i', 'n', '!', 0)
	x.bytes(16, 'o', 'u', 't', 0)
	x.lines("out")
}

// What the daemon has written into the page is laid there anew, but never read.
func TestDaemonKeepsItsNumbers(t *testing.T) {
	x := makeBed(t)
	x.put(0, []byte("abc")...)
	x.drain(3, false)
	x.feed(3, 'a', 'b', 'c')
	for _, n := range []int{0, 1, 4, 500, 65535} {
		x.tell(2, n)
		x.tell(6, n)
		x.drain(0, false)
		x.told(2, 3)
		x.told(6, n)
		x.feed(0)
		x.told(6, 3)
	}
	x.tell(2, 77)
	x.tell(6, 77)
	x.put(3, 'd')
	x.drain(1, false)
	x.feed(1, 'd')
	x.told(2, 4)
	x.told(6, 4)
	x.bytes(160, 'a', 'b', 'c', 'd', 0)
	x.tell(6, 77)
	x.tell(4, 300)
	x.feed(0, 'e')
	x.told(6, 4)
	x.lines("abcd")
}

// refused asks that both calls are refused so, and that the console is as it was.
func refused(t *testing.T, what string, c *cons.Console, v *view.View, e api.Errno) {
	t.Helper()
	lines, rest, mfn := c.Lines(), c.Rest(), c.Mfn()
	if n, clamped, is := c.Drain(v); n != 0 || clamped || is != e {
		t.Errorf("%s: Drain = %d, %v, %v, not %v", what, n, clamped, is, e)
	}
	for _, b := range [][]byte{nil, {}, {1}, make([]byte, 100)} {
		if n, is := c.Feed(v, b); n != 0 || is != e {
			t.Errorf("%s: Feed of %d bytes = %d, %v, not %v", what, len(b), n, is, e)
		}
	}
	if !slices.Equal(lines, c.Lines()) || rest != c.Rest() || mfn != c.Mfn() {
		t.Errorf("%s: the console has changed", what)
	}
}

// A frame that the view's machine has not.
func TestPageThatIsNot(t *testing.T) {
	for _, mfn := range []int{size, size + 1, api.MaxFrames - 1} {
		m := machine(t)
		was := all(m)
		v := look(t, m)
		refused(t, "no frame", console(t, mfn), v, api.ErrArg)
		if v.Reads() != 5 || all(m) != was {
			t.Errorf("%d reads of a frame that is not", v.Reads())
		}
	}
	// Behind the error all goes on where it was.
	x := makeBed(t)
	x.put(0, []byte("a\nb")...)
	x.drain(3, false)
	x.feed(2, 'c', 'd')
	small, e := phys.New(1)
	want(t, "phys.New", e, api.OK)
	refused(t, "a small machine", x.c, look(t, small), api.ErrArg)
	x.put(3, 'e')
	x.drain(1, false)
	x.feed(1, 'f')
	x.told(2, 4)
	x.told(6, 3)
	x.bytes(160, 'c', 'd', 'f', 0)
	x.lines("a", "be")
}

// A frame that is free can be read, but not written: that is no reason to refuse anything.
func TestPageThatIsFree(t *testing.T) {
	x := makeBed(t)
	x.c = console(t, free)
	was := all(x.m)
	x.drain(0, false)
	x.feed(2, 'a', 'b')
	x.feed(62, count(0, 70)...)
	x.feed(0, 'c')
	if all(x.m) != was {
		t.Error("a free frame was written")
	}
	// The daemon of a page that has gone meanwhile goes on too: a guest's number of 0 is far ahead of one taken.
	x = makeBed(t)
	x.put(0, 'a')
	x.drain(1, false)
	want(t, "Free", x.m.Free(page), api.OK)
	x.drain(128, true)
	x.lines("a"+strings.Repeat(`\x00`, 127), `\x00`)
}

// Whose the frame is, and as what it is in use, is nothing that the daemon asks.
func TestPageOfAnyKind(t *testing.T) {
	x := makeBed(t)
	x.c = console(t, table)
	want(t, "Write", x.m.Write(table, 0, word(2)), api.OK)
	x.drain(2, false)
	x.feed(1, 'a')
	b, _ := x.m.Read(table, 0, 8)
	if !bytes.Equal(b, []byte{2, 0, 2, 0, 0, 0, 1, 0}) {
		t.Errorf("the numbers are %x", b)
	}
	x.lines(`\x00\x00`)
}

// P16.3

func TestNoConsole(t *testing.T) {
	m := machine(t)
	was := all(m)
	v := look(t, m, api.Poke{Mfn: page, Bytes: []byte{1}})
	for what, c := range map[string]*cons.Console{"nil": nil, "not made": {}} {
		for _, w := range []*view.View{v, nil, {}} {
			refused(t, what, c, w, api.ErrZero)
		}
		if c.Lines() != nil || c.Rest() != "" || c.Mfn() != -1 {
			t.Errorf("%s: has %q, %q, %d", what, c.Lines(), c.Rest(), c.Mfn())
		}
	}
	if v.Reads() != 0 || v.Rest() != 1 || all(m) != was {
		t.Error("something was read")
	}
}

func TestNoView(t *testing.T) {
	x := makeBed(t)
	x.put(0, []byte("a\nb")...)
	x.drain(3, false)
	x.put(3, 'c')
	was := all(x.m)
	for _, v := range []*view.View{nil, {}} {
		refused(t, "no view", x.c, v, api.ErrZero)
		refused(t, "no view", console(t, page), v, api.ErrZero)
		refused(t, "no view, no frame", console(t, size), v, api.ErrZero)
	}
	if all(x.m) != was {
		t.Error("something was written")
	}
	x.drain(1, false)
	x.lines("a", "bc")
}

func TestAccessorsReadNothing(t *testing.T) {
	x := makeBed(t)
	x.put(0, []byte("a\nb")...)
	x.drain(3, false)
	x.put(3, []byte("c\n")...)
	x.view(api.Poke{Mfn: page, Bytes: []byte{9}})
	was := all(x.m)
	for range 3 {
		x.lines("a", "b")
		if x.c.Mfn() != page {
			t.Errorf("Mfn = %d", x.c.Mfn())
		}
	}
	x.reads(0)
	if all(x.m) != was {
		t.Error("something was written")
	}
}

// What was answered is the caller's own, and what was handed in as well.
func TestNothingIsShared(t *testing.T) {
	x := makeBed(t)
	x.put(0, []byte("a\nb\nc")...)
	x.drain(5, false)
	l := x.c.Lines()
	l[0], l[1] = "x", "y"
	_ = append(l, "z")
	x.lines("a", "b", "c")
	l = x.c.Lines()
	x.put(5, []byte("d\ne\nf")...)
	x.drain(5, false)
	if !slices.Equal(l, []string{"a", "b"}) {
		t.Errorf("an older answer has changed to %q", l)
	}
	b := []byte("hi")
	x.feed(2, b...)
	b[0], b[1] = 'x', 'y'
	x.feed(1, '!')
	x.bytes(160, 'h', 'i', '!')
}

// Each console is one of its own, also at the same page.
func TestConsolesAreApart(t *testing.T) {
	x := makeBed(t)
	other, one := console(t, page), x.c
	x.put(0, []byte("hi\nyo")...)
	x.drain(5, false)
	x.feed(2, 'a', 'b')
	x.c = other
	x.lines("")
	x.drain(5, false)
	x.feed(1, 'c')
	x.told(6, 1)
	x.bytes(160, 'c', 'b')
	x.lines("hi", "yo")
	x.c = one
	x.drain(0, false)
	x.feed(1, 'd')
	x.told(6, 3)
	x.lines("hi", "yo")
}

// A console goes with any view: it is the view's machine that is looked at.
func TestConsoleOfManyMachines(t *testing.T) {
	c := console(t, page)
	for n := range 5 {
		x := makeBed(t)
		x.c = c
		x.put(n, byte('a'+n))
		x.drain(1, false)
		x.told(2, n+1)
	}
	if c.Rest() != "abcde" {
		t.Errorf("Rest = %q", c.Rest())
	}
}

func TestSameCallsSameAnswers(t *testing.T) {
	told := ""
	for range 3 {
		x := makeBed(t, api.Poke{At: 1, Mfn: page, Off: 16, Bytes: []byte("zz\n")})
		x.tell(0, 300)
		n, clamped, e := x.c.Drain(x.v)
		k, ke := x.c.Feed(x.v, count(0, 65))
		is := fmt.Sprint(n, clamped, e, k, ke, x.c.Lines(), x.c.Rest(), all(x.m))
		if told != "" && is != told {
			t.Error("the answers are others")
		}
		told = is
	}
}
