package path_test

import (
	"math"
	"slices"
	"strconv"
	"testing"
	"unicode/utf8"

	"tenement/api"
	"tenement/path"
)

// Permissions of a domain, by their letters.
func none(dom int) api.Perm { return api.Perm{Dom: dom} }

func read(dom int) api.Perm { return api.Perm{Dom: dom, Read: true} }

func write(dom int) api.Perm { return api.Perm{Dom: dom, Write: true} }

func both(dom int) api.Perm { return api.Perm{Dom: dom, Read: true, Write: true} }

// full is as many permissions as may be, as text and as list.
const full = "r0,n7,w1,b6,r2,n5,w3,b4"

func fullList() []api.Perm {
	return []api.Perm{read(0), none(7), write(1), both(6), read(2), none(5), write(3), both(4)}
}

var noDomains = []int{math.MinInt, -1, api.MaxDoms, api.MaxDoms + 1, 256, math.MaxInt}

// P9.3: Perms

func wantPerms(t *testing.T, s string, perms ...api.Perm) {
	t.Helper()
	l, at, e := path.Perms(s)
	if !slices.Equal(l, perms) || at != 0 || e != api.OK {
		t.Errorf("Perms(%q) = %v, %d, %v, not %v", s, l, at, e, perms)
	}
}

func wantNoPerms(t *testing.T, f fault) {
	t.Helper()
	l, at, e := path.Perms(f.s)
	if len(l) != 0 || at != f.at || e != f.e {
		t.Errorf("Perms(%q) = %v, %d, %v, not %d, %v", f.s, l, at, e, f.at, f.e)
	}
}

func TestPerms(t *testing.T) {
	wantPerms(t, "n0,r1", none(0), read(1))
	wantPerms(t, "n0,r1,w2,b3", none(0), read(1), write(2), both(3))
	wantPerms(t, "b7,w6,r5,n4", both(7), write(6), read(5), none(4))
	wantPerms(t, full, fullList()...)
	for dom := range api.MaxDoms {
		n := strconv.Itoa(dom)
		wantPerms(t, "n"+n, none(dom))
		wantPerms(t, "r"+n, read(dom))
		wantPerms(t, "w"+n, write(dom))
		wantPerms(t, "b"+n, both(dom))
	}
	for n := range api.MaxPerms {
		wantPerms(t, full[:3*n+2], fullList()[:n+1]...)
	}
}

func TestNoPerms(t *testing.T) {
	for _, f := range []fault{
		{"", 0, api.ErrPath},
		{",", 0, api.ErrPath},
		{"x0", 0, api.ErrPath},
		{"0r", 0, api.ErrPath},
		{" r0", 0, api.ErrPath},
		{"R0", 0, api.ErrPath},
		{"rw0", 1, api.ErrPath},
		{"r", 1, api.ErrPath},
		{"r,", 1, api.ErrPath},
		{"r8", 1, api.ErrPath},
		{"r9", 1, api.ErrPath},
		{"r-1", 1, api.ErrPath},
		{"r/", 1, api.ErrPath},
		{"r:", 1, api.ErrPath},
		{"r\u0660", 1, api.ErrPath}, // a digit, but not of those
		{"r0r1", 2, api.ErrPath},
		{"r00", 2, api.ErrPath},
		{"r0 ", 2, api.ErrPath},
		{"r0;r1", 2, api.ErrPath},
		{"r0\xff", 2, api.ErrPath},
		{"r0,", 3, api.ErrPath},
		{"r0,,r1", 3, api.ErrPath},
		{"r0, r1", 3, api.ErrPath},
		{"r0,\u00e9", 3, api.ErrPath},
		{"r0,x0", 3, api.ErrPath},
		{"r0,r", 4, api.ErrPath},
		{"r0,r\u00e9", 4, api.ErrPath},
		{"r0,r8", 4, api.ErrPath},
		{"r0,b1,", 6, api.ErrPath},
		{"\u00e9", 0, api.ErrPath},
		{"\xff", 0, api.ErrPath},
		{"\u00e9,r0", 0, api.ErrPath},
	} {
		wantNoPerms(t, f)
	}
}

func TestPermsTwice(t *testing.T) {
	for _, f := range []fault{
		{"r0,r0", 3, api.ErrTwice},
		{"r0,n0", 3, api.ErrTwice},
		{"n0,r1,w2,b1", 9, api.ErrTwice},
		{"n0,r1,w1,b0", 6, api.ErrTwice},
		{"r7,b7", 3, api.ErrTwice},
		{"r0,r0,x", 3, api.ErrTwice},
		{"r0,r0x", 3, api.ErrTwice}, // the part begins ahead of the letter that can't stand there
		{"r0,r0\u00e9", 3, api.ErrTwice},
		{"r0,r0,", 3, api.ErrTwice},
		{"r0,x,r0", 3, api.ErrPath},
		{"r0,r8,r0", 4, api.ErrPath},
		{"r0x,r0", 2, api.ErrPath},
		{"r0,r", 4, api.ErrPath},
		{full[:21] + "w0", 21, api.ErrTwice},
		{full[:21] + "w0,r4", 21, api.ErrTwice},
		{"r0,r0," + full, 3, api.ErrTwice},
	} {
		wantNoPerms(t, f)
	}
	for n := range api.MaxPerms - 1 {
		for again := range n + 1 {
			s := full[:3*n+3] + "r" + full[3*again+1:3*again+2]
			wantNoPerms(t, fault{s, 3*n + 3, api.ErrTwice})
		}
	}
}

// The part that is one too many is ErrLong, whatever stands there.
func TestPermsTooMany(t *testing.T) {
	for _, ninth := range []string{"r0", "n7", "r8", "x", "", ",", "\u00e9", "\xff", "r", full, "0", of(1<<16, "r0,")} {
		wantNoPerms(t, fault{full + "," + ninth, 24, api.ErrLong})
	}
	for _, f := range []fault{
		{full + "r0", 23, api.ErrPath},
		{full + " ", 23, api.ErrPath},
		{full[:21] + "x4,r0", 21, api.ErrPath},
		{full[:21] + "r8,r0", 22, api.ErrPath},
		{full[:21], 21, api.ErrPath},
		{full[:22], 22, api.ErrPath},
		{of(1<<16, "r0,"), 3, api.ErrTwice},
	} {
		wantNoPerms(t, f)
	}
}

// Of all letters that there are those alone stand at each place.
func TestPermsLetters(t *testing.T) {
	for r := rune(0); r <= utf8.MaxRune; r++ {
		if !utf8.ValidRune(r) {
			continue
		}
		s := string(r)
		wanted := []fault{{s + "3", 0, api.ErrPath}, {"r" + s, 1, api.ErrPath}, {"r3" + s + "b0", 2, api.ErrPath}, {"r3," + s + "0", 3, api.ErrPath}}
		switch r {
		case 'n', 'r', 'w', 'b':
			wanted[0], wanted[3] = fault{s: s + "3"}, fault{s: "r3," + s + "0"}
		case '0', '1', '2', '3', '4', '5', '6', '7':
			wanted[1] = fault{s: "r" + s}
		case ',':
			wanted[2] = fault{s: "r3,b0"}
		}
		for _, f := range wanted {
			if l, at, e := path.Perms(f.s); at != f.at || e != f.e || len(l) != 0 != (e == api.OK) {
				t.Fatalf("Perms(%q) = %v, %d, %v, not %d, %v", f.s, l, at, e, f.at, f.e)
			}
		}
	}
}

// P9.3: Text

func wantText(t *testing.T, s string, l ...api.Perm) {
	t.Helper()
	if is, e := path.Text(l); is != s || e != api.OK {
		t.Errorf("Text(%v) = %q, %v, not %q", l, is, e, s)
	}
}

func wantNoText(t *testing.T, l ...api.Perm) {
	t.Helper()
	if s, e := path.Text(l); s != "" || e != api.ErrArg {
		t.Errorf("Text(%v) = %q, %v", l, s, e)
	}
}

func TestText(t *testing.T) {
	wantText(t, "n0,r1", none(0), read(1))
	wantText(t, "n0,r1,w2,b3", none(0), read(1), write(2), both(3))
	wantText(t, full, fullList()...)
	for n := range api.MaxPerms {
		wantText(t, full[:3*n+2], fullList()[:n+1]...)
	}
	for dom := range api.MaxDoms {
		n := strconv.Itoa(dom)
		wantText(t, "n"+n, none(dom))
		wantText(t, "r"+n, read(dom))
		wantText(t, "w"+n, write(dom))
		wantText(t, "b"+n, both(dom))
	}
}

func TestNoText(t *testing.T) {
	wantNoText(t)
	wantNoText(t, []api.Perm{}...)
	for _, no := range noDomains {
		wantNoText(t, read(no))
		wantNoText(t, read(0), none(1), both(no))
		wantNoText(t, read(no), none(1), both(0))
		wantNoText(t, append(fullList()[:7], read(no))...)
		wantNoText(t, append(fullList(), read(no))...)
	}
	wantNoText(t, read(0), read(0))
	wantNoText(t, read(3), none(3))
	wantNoText(t, append(fullList(), read(0))...)
	wantNoText(t, slices.Repeat(fullList(), 1<<13)...)
	for one := range api.MaxPerms {
		for other := range one {
			l := fullList()
			l[one].Dom = l[other].Dom
			wantNoText(t, l...)
			wantNoText(t, l[:one+1]...)
		}
	}
}

// P9.3: May

func wantMay(t *testing.T, l []api.Perm, dom int, may string) {
	t.Helper()
	r, w := path.May(l, dom)
	is := map[[2]bool]string{{true, true}: "both", {true, false}: "read", {false, true}: "write"}[[2]bool{r, w}]
	if is != may {
		t.Errorf("May(%v, %d) = %v, %v, not %q", l, dom, r, w, may)
	}
}

func TestMay(t *testing.T) {
	l := []api.Perm{read(1), none(2), write(3), both(4)}
	for dom, may := range []string{"both", "both", "", "write", "both", "read", "read", "read"} {
		wantMay(t, l, dom, may)
	}
	l[0] = none(1)
	for dom, may := range []string{"both", "both", "", "write", "both", "", "", ""} {
		wantMay(t, l, dom, may)
	}
	l[0], l[2] = write(1), read(3)
	for dom, may := range []string{"both", "both", "", "read", "both", "write", "write", "write"} {
		wantMay(t, l, dom, may)
	}
	l[0] = both(1)
	for dom, may := range []string{"both", "both", "", "read", "both", "both", "both", "both"} {
		wantMay(t, l, dom, may)
	}
}

func TestMayOfAnEmptyList(t *testing.T) {
	for _, dom := range append(noDomains, 0, 1, 7) {
		wantMay(t, nil, dom, "")
		wantMay(t, []api.Perm{}, dom, "")
	}
}

// The owner and domain 0 may both, whatever entries of theirs say.
func TestMayOfTheOwner(t *testing.T) {
	for owner := range api.MaxDoms {
		l := []api.Perm{none(owner), none(0), none(owner)}
		for dom := range api.MaxDoms {
			may := ""
			if dom == owner || dom == 0 {
				may = "both"
			}
			wantMay(t, l, dom, may)
			wantMay(t, l[:1], dom, may)
		}
	}
}

// A list that Text would refuse is answered by the same words: the first other entry of a domain says it.
func TestMayOfAnyList(t *testing.T) {
	l := []api.Perm{read(5), write(1), both(1), none(2), both(2), none(-1), write(99)}
	for dom, may := range map[int]string{0: "both", 1: "write", 2: "", 3: "read", 5: "both", -1: "", 99: "write", 8: "read", math.MinInt: "read", math.MaxInt: "read"} {
		wantMay(t, l, dom, may)
	}
	wantMay(t, []api.Perm{none(-1)}, -1, "both")
	wantMay(t, []api.Perm{none(99), read(-1)}, 99, "both")
	long := append(slices.Repeat([]api.Perm{none(1)}, 1<<16), write(2))
	wantMay(t, long, 2, "write")
	wantMay(t, long, 3, "")
}

// P4

func TestPermsAreNeitherChangedNorKept(t *testing.T) {
	l := fullList()
	wantText(t, full, l...)
	wantNoText(t, append(l, read(1))...)
	wantMay(t, l, 7, "")
	if !slices.Equal(l, fullList()) {
		t.Errorf("what was handed in has been changed: %v", l)
	}
	first, _, _ := path.Perms("r1,w2")
	first[0] = none(7)
	first = append(first, both(6))
	wantPerms(t, "r1,w2", read(1), write(2))
	if !slices.Equal(first, []api.Perm{none(7), write(2), both(6)}) {
		t.Errorf("what was answered has been changed: %v", first)
	}
}
