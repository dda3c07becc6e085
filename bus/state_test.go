package bus_test

import (
	"math"
	"slices"
	"strings"
	"testing"

	"tenement/api"
	"tenement/bus"
)

// numbers are all states, and numbers that are none.
var numbers = []int{math.MinInt, math.MinInt32, -256, -64, -8, -2, -1, 0, 1, 2, 3, 4, 5, 6, 7, 8, 9, 32, 49, 64, 65, 256, 257, math.MaxInt32, 1 << 32, 1<<32 + 1, math.MaxInt}

// rows are the document's table: from which, to which, the other in which.
var rows = []string{
	"06 1 0126",
	"1 2 0123",
	"1 3 2",
	"2 3 23",
	"23 4 34",
	"1234 5 0123456",
	"5 6 056",
}

// mayGo is Allowed, as the rows say it.
func mayGo(from, to, other int) bool {
	for _, n := range []int{from, to, other} {
		if n < 0 || n > 6 {
			return false
		}
	}
	in := func(set string, n int) bool { return strings.ContainsRune(set, rune('0'+n)) }
	return slices.ContainsFunc(rows, func(row string) bool {
		f := strings.Fields(row)
		return in(f[0], from) && in(f[1], to) && in(f[2], other)
	})
}

// goals are where a back end goes: where it is, where the other is, where it goes. Else it stays.
var goals = []string{
	"1 0123456 2",
	"2 34 4",
	"4 560 5",
	"3 560 5",
	"5 560 6",
	"6 1 1",
	"0 1 1",
}

// goesTo is Next, as the goals say it; a number that is no state is no reason to go but from BInit.
func goesTo(own, other int) int {
	if own == 1 {
		return 2
	}
	for _, goal := range goals {
		f := strings.Fields(goal)
		if own >= 0 && own <= 6 && other >= 0 && other <= 6 && f[0] == string(rune('0'+own)) && strings.ContainsRune(f[1], rune('0'+other)) {
			return int(f[2][0] - '0')
		}
	}
	return own
}

// P11.1: State

func wantState(t *testing.T, value []byte, want int) {
	t.Helper()
	before := slices.Clone(value)
	if is := bus.State(value); is != want {
		t.Errorf("State(%q) = %d, not %d", value, is, want)
	}
	if !slices.Equal(value, before) {
		t.Errorf("State changed %q into %q", before, value)
	}
}

func TestStates(t *testing.T) {
	if api.BUnknown != 0 || api.BInit != 1 || api.BWait != 2 || api.BReady != 3 || api.BOpen != 4 || api.BClosing != 5 || api.BClosed != 6 {
		t.Fatal("the states are numbered otherwise")
	}
	wantState(t, []byte("1"), api.BInit)
	wantState(t, []byte("2"), api.BWait)
	wantState(t, []byte("3"), api.BReady)
	wantState(t, []byte("4"), api.BOpen)
	wantState(t, []byte("5"), api.BClosing)
	wantState(t, []byte("6"), api.BClosed)
}

// Each byte but the six digits is none.
func TestStateOfEachByte(t *testing.T) {
	for b := range 256 {
		want := strings.IndexByte("123456", byte(b)) + 1
		wantState(t, []byte{byte(b)}, want)
	}
}

func TestNoState(t *testing.T) {
	wantState(t, nil, api.BUnknown)
	wantState(t, []byte{}, api.BUnknown)
	for _, s := range []string{"44", "4 ", " 4", "04", "4\x00", "\x004", "+4", "-4", "4\n", "12", "11", "garbage", "\u0664", "\uff14", strings.Repeat("4", 64), strings.Repeat("1", 1<<16)} {
		wantState(t, []byte(s), api.BUnknown)
	}
	// One byte of more that are there.
	wantState(t, []byte("44")[:1], api.BOpen)
	wantState(t, []byte("4")[:0], api.BUnknown)
}

// P11.1: Allowed

func TestAllowed(t *testing.T) {
	for _, c := range []struct {
		from, to, other int
		want            bool
	}{
		{api.BInit, api.BReady, api.BWait, true},
		{api.BInit, api.BOpen, api.BOpen, false},
		{api.BUnknown, api.BInit, api.BUnknown, true},
		{api.BUnknown, api.BInit, api.BReady, false},
		{api.BClosed, api.BInit, api.BClosed, true},
		{api.BClosed, api.BInit, api.BClosing, false},
		{api.BInit, api.BWait, api.BReady, true},
		{api.BInit, api.BWait, api.BOpen, false},
		{api.BInit, api.BReady, api.BInit, false},
		{api.BWait, api.BReady, api.BReady, true},
		{api.BWait, api.BReady, api.BInit, false},
		{api.BWait, api.BOpen, api.BOpen, true},
		{api.BReady, api.BOpen, api.BWait, false},
		{api.BOpen, api.BClosing, api.BUnknown, true},
		{api.BInit, api.BClosing, api.BOpen, true},
		{api.BUnknown, api.BClosing, api.BClosing, false},
		{api.BClosed, api.BClosing, api.BClosing, false},
		{api.BClosing, api.BClosed, api.BClosed, true},
		{api.BClosing, api.BClosed, api.BOpen, false},
		{api.BClosing, api.BInit, api.BInit, false},
		{api.BOpen, api.BClosed, api.BClosed, false},
		{api.BOpen, api.BOpen, api.BOpen, false},
		{api.BInit, api.BUnknown, api.BUnknown, false},
	} {
		if is := bus.Allowed(c.from, c.to, c.other); is != c.want {
			t.Errorf("Allowed(%d, %d, %d) = %v", c.from, c.to, c.other, is)
		}
	}
}

// All that the table says, and nothing that it does not, of numbers that are no states too.
func TestAllowedOfAll(t *testing.T) {
	n := 0
	for _, from := range numbers {
		for _, to := range numbers {
			for _, other := range numbers {
				want := mayGo(from, to, other)
				if is := bus.Allowed(from, to, other); is != want {
					t.Errorf("Allowed(%d, %d, %d) = %v", from, to, other, is)
				}
				if want {
					n++
				}
			}
		}
	}
	// Counted by hand, row by row of the document's table.
	if want := 2*4 + 4 + 1 + 2 + 2*2 + 4*7 + 3; n != want {
		t.Errorf("%d moves are allowed, not %d", n, want)
	}
}

// P11.1: Next

func TestNext(t *testing.T) {
	for _, c := range []struct{ own, other, want int }{
		{api.BInit, api.BUnknown, api.BWait},
		{api.BInit, api.BOpen, api.BWait}, // where it can't go, but that is Allowed's to say
		{api.BInit, api.BClosed, api.BWait},
		{api.BWait, api.BInit, api.BWait},
		{api.BWait, api.BReady, api.BOpen},
		{api.BWait, api.BOpen, api.BOpen},
		{api.BWait, api.BClosing, api.BWait},
		{api.BWait, api.BUnknown, api.BWait},
		{api.BReady, api.BOpen, api.BReady},
		{api.BReady, api.BClosed, api.BClosing},
		{api.BReady, api.BUnknown, api.BClosing},
		{api.BOpen, api.BOpen, api.BOpen},
		{api.BOpen, api.BInit, api.BOpen},
		{api.BOpen, api.BClosing, api.BClosing},
		{api.BOpen, api.BUnknown, api.BClosing},
		{api.BClosing, api.BOpen, api.BClosing},
		{api.BClosing, api.BClosing, api.BClosed},
		{api.BClosing, api.BUnknown, api.BClosed},
		{api.BClosed, api.BInit, api.BInit},
		{api.BClosed, api.BUnknown, api.BClosed},
		{api.BUnknown, api.BInit, api.BInit},
		{api.BUnknown, api.BUnknown, api.BUnknown},
		{7, api.BInit, 7},
		{-1, api.BUnknown, -1},
		{api.BOpen, 7, api.BOpen},
		{api.BClosing, -1, api.BClosing},
	} {
		if is := bus.Next(c.own, c.other); is != c.want {
			t.Errorf("Next(%d, %d) = %d, not %d", c.own, c.other, is, c.want)
		}
	}
}

func TestNextOfAll(t *testing.T) {
	for _, own := range numbers {
		for _, other := range numbers {
			if is, want := bus.Next(own, other), goesTo(own, other); is != want {
				t.Errorf("Next(%d, %d) = %d, not %d", own, other, is, want)
			}
		}
	}
}
