package path_test

import (
	"slices"
	"strings"
	"testing"
	"unicode/utf8"

	"tenement/api"
	"tenement/path"
)

const letters = "abcdefghijklmnopqrstuvwxyzABCDEFGHIJKLMNOPQRSTUVWXYZ0123456789-_.@"

// longest is a name of as many letters as may be.
const longest = "abcdefghijklmnopqrstuvwxyz-0.9@_"

// deepest is a path of as many names as may be.
const deepest = "/a/b/c/d/e/f/g/h"

// fault is a text, and what its error says.
type fault struct {
	s  string
	at int
	e  api.Errno
}

// of is n times a text.
func of(n int, s string) string { return strings.Repeat(s, n) }

// P9.1: Name

func wantName(t *testing.T, s string) {
	t.Helper()
	wantNoName(t, fault{s, 0, api.OK})
}

func wantNoName(t *testing.T, f fault) {
	t.Helper()
	if at, e := path.Name(f.s); at != f.at || e != f.e {
		t.Errorf("Name(%q) = %d, %v, not %d, %v", f.s, at, e, f.at, f.e)
	}
}

func TestName(t *testing.T) {
	for _, s := range []string{"a", "dom", "0", "7", "-", "_", ".", "..", "@", "a.b-c_d@e", "A0", "Zz9", letters[:32], letters[32:64], longest} {
		wantName(t, s)
	}
	for n := range api.MaxNames {
		wantName(t, of(n+1, "n"))
		wantName(t, longest[:n+1])
	}
}

// Of all letters that there are those alone stand in a name, at its beginning, within it and at its end.
func TestNameLetters(t *testing.T) {
	for r := rune(0); r <= utf8.MaxRune; r++ {
		if !utf8.ValidRune(r) {
			continue
		}
		s := string(r)
		e := api.ErrPath
		if strings.ContainsRune(letters, r) {
			e = api.OK
		}
		for n, text := range []string{s, "x" + s, "x" + s + "y"} {
			at := min(n, 1)
			if e == api.OK {
				at = 0
			}
			if is, ge := path.Name(text); is != at || ge != e {
				t.Fatalf("Name(%q) = %d, %v, not %d, %v", text, is, ge, at, e)
			}
		}
	}
}

// A byte that begins no letter of UTF-8 is one of its own.
func TestNameBytes(t *testing.T) {
	for b := range 256 {
		s := string([]byte{byte(b)})
		if strings.Contains(letters, s) {
			wantName(t, s)
			wantName(t, "aZ"+s)
			continue
		}
		wantNoName(t, fault{s, 0, api.ErrPath})
		wantNoName(t, fault{"aZ" + s, 2, api.ErrPath})
		wantNoName(t, fault{"aZ" + s + "!", 2, api.ErrPath})
	}
}

func TestNoName(t *testing.T) {
	for _, f := range []fault{
		{"", 0, api.ErrPath},
		{"a b", 1, api.ErrPath},
		{" ", 0, api.ErrPath},
		{"/", 0, api.ErrPath},
		{"a/b", 1, api.ErrPath},
		{"ab\x00", 2, api.ErrPath},
		{"a\u00e9b!", 1, api.ErrPath},
		{"abc\u20ac", 3, api.ErrPath},
		{"ab\xe2\x82", 2, api.ErrPath},
		{"a\xff\xff", 1, api.ErrPath},
		{"a\ufffd", 1, api.ErrPath},
		{"\u0430", 0, api.ErrPath}, // that looks like an a
		{"a\uff10", 1, api.ErrPath},
		{longest + "a", 32, api.ErrLong},
		{longest + "ab!", 32, api.ErrLong},
		{of(33, "x"), 32, api.ErrLong},
		{of(1<<16, "x"), 32, api.ErrLong},
		{of(1<<16, "\xff"), 0, api.ErrPath},
		{longest[:31] + "!a", 31, api.ErrPath},
		{longest[:31] + "!" + longest, 31, api.ErrPath},
		{longest + "!", 32, api.ErrPath}, // one too many too, but ErrPath is named first
		{longest + "\u00e9", 32, api.ErrPath},
		{longest + "/", 32, api.ErrPath},
		{longest + "a!", 32, api.ErrLong},
	} {
		wantNoName(t, f)
	}
}

// P9.1: Parse

func wantNames(t *testing.T, s string, names ...string) {
	t.Helper()
	l, at, e := path.Parse(s)
	if !slices.Equal(l, names) || at != 0 || e != api.OK {
		t.Errorf("Parse(%q) = %q, %d, %v, not %q", s, l, at, e, names)
	}
}

func wantNoPath(t *testing.T, f fault) {
	t.Helper()
	l, at, e := path.Parse(f.s)
	if len(l) != 0 || at != f.at || e != f.e {
		t.Errorf("Parse(%q) = %q, %d, %v, not %d, %v", f.s, l, at, e, f.at, f.e)
	}
}

func TestParse(t *testing.T) {
	wantNames(t, "/")
	wantNames(t, "/dom/1", "dom", "1")
	wantNames(t, "/a", "a")
	wantNames(t, "/a/a/a", "a", "a", "a")
	wantNames(t, "/./../@-_", ".", "..", "@-_")
	wantNames(t, "/dom/1/dev/7/state", "dom", "1", "dev", "7", "state")
	wantNames(t, "/"+longest, longest)
	wantNames(t, deepest, "a", "b", "c", "d", "e", "f", "g", "h")
	wantNames(t, "/"+letters[:32]+"/"+letters[32:64]+"/"+letters[64:], letters[:32], letters[32:64], letters[64:])
}

func TestNoPath(t *testing.T) {
	for _, f := range []fault{
		{"", 0, api.ErrPath},
		{"a", 0, api.ErrPath},
		{"a/b", 0, api.ErrPath},
		{" /a", 0, api.ErrPath},
		{"\u00e9", 0, api.ErrPath},
		{"\xff", 0, api.ErrPath},
		{"//", 1, api.ErrPath},
		{"//a", 1, api.ErrPath},
		{"/a/", 3, api.ErrPath},
		{"/a//", 3, api.ErrPath},
		{"/a//b", 3, api.ErrPath},
		{"/a/b/", 5, api.ErrPath},
		{"/ ", 1, api.ErrPath},
		{"/a b", 2, api.ErrPath},
		{"/a/b!/c d", 4, api.ErrPath},
		{"/dom/\u00e9", 5, api.ErrPath},
		{"/dom/a\u00e9/!", 6, api.ErrPath},
		{"/dom\xc3/\xa9", 4, api.ErrPath},
		{"/a\n", 2, api.ErrPath},
		{"/a\x00", 2, api.ErrPath},
	} {
		wantNoPath(t, f)
	}
}

func TestLongNameOfAPath(t *testing.T) {
	for _, f := range []fault{
		{"/" + longest + "a", 33, api.ErrLong},
		{"/" + longest + "ab/!", 33, api.ErrLong},
		{"/a/" + longest + "a", 35, api.ErrLong},
		{"/" + longest + "/" + longest + "a/c", 66, api.ErrLong},
		{"/" + longest + "!", 33, api.ErrPath}, // as in a name
		{"/" + longest + "\u00e9a", 33, api.ErrPath},
		{"/" + longest + "/", 34, api.ErrPath},
		{"/!/" + longest + "a", 1, api.ErrPath},
		{"/a//" + longest + "a", 3, api.ErrPath},
	} {
		wantNoPath(t, f)
	}
}

// Where the name that is one too many should begin it is ErrLong, whatever stands there.
func TestDeepPath(t *testing.T) {
	for _, ninth := range []string{"i", "", "!", "/", "\u00e9", "\xff", longest, longest + "a", "i/j", "i/", "i!"} {
		wantNoPath(t, fault{deepest + "/" + ninth, 17, api.ErrLong})
	}
	for _, f := range []fault{
		{deepest + "!", 16, api.ErrPath},
		{deepest + "!/i", 16, api.ErrPath},
		{"/a/b/c/d/e/f/g//i", 15, api.ErrPath},
		{"/a/b/c/d/e/f/g/", 15, api.ErrPath},
		{"/a/b/c/d/e/f/g/!/i", 15, api.ErrPath},
		{"/a/b/c/d/e/f/g/" + longest + "a/i", 47, api.ErrLong},
		{"/a/b/c/d/e/f/g/" + longest + "/i", 48, api.ErrLong},
		{of(128, "/a"), 17, api.ErrLong},
		{of(9, "/a") + of(200, "/"), 17, api.ErrLong},
	} {
		wantNoPath(t, f)
	}
}

// pathOf is a path of n bytes, 16 to 256, of 8 names of which the last one is the rest.
func pathOf(n int) string {
	size := min(32, (n-9)/7)
	return of(7, "/"+of(size, "p")) + "/" + of(n-7*(size+1)-1, "q")
}

func TestParseToTheLongest(t *testing.T) {
	for n := 225; n <= 256; n++ {
		s := pathOf(n)
		if len(s) != n {
			t.Fatalf("a path of %d bytes has %d", n, len(s))
		}
		l, at, e := path.Parse(s)
		if len(l) != 8 || at != 0 || e != api.OK {
			t.Errorf("Parse of %d bytes = %q, %d, %v", n, l, at, e)
		}
	}
}

// More bytes than may be come ahead of every other fault, wherever that is.
func TestParseOfTooManyBytes(t *testing.T) {
	names := of(8, "/"+longest)
	for _, s := range []string{names, names[:257], of(257, "a"), of(257, "/"), of(257, "!"), of(129, "\u00e9"), of(257, "\xff"), "a" + pathOf(256), pathOf(256) + "!", pathOf(256) + "/", of(1<<16, "/a")} {
		wantNoPath(t, fault{s, 0, api.ErrLong})
	}
	// At the end of the bytes all is as below it.
	for _, f := range []fault{
		{of(256, "a"), 0, api.ErrPath},
		{of(256, "/"), 1, api.ErrPath},
		{of(128, "\u00e9"), 0, api.ErrPath},
		{"/" + of(255, "a"), 33, api.ErrLong},
		{"/" + of(254, "/") + "a", 1, api.ErrPath},
		{pathOf(255) + "!", 255, api.ErrPath},
		{pathOf(254) + "\u00e9", 254, api.ErrPath},
		{names[:231] + "/a/" + of(22, "b"), 234, api.ErrLong}, // 7 names, and two more
		{names[:255] + "!", 255, api.ErrPath},
	} {
		if len(f.s) != 256 {
			t.Fatalf("%q has %d bytes", f.s, len(f.s))
		}
		wantNoPath(t, f)
	}
}

// P9.1: Join

func wantJoin(t *testing.T, s string, l ...string) {
	t.Helper()
	if is, e := path.Join(l); is != s || e != api.OK {
		t.Errorf("Join(%q) = %q, %v, not %q", l, is, e, s)
	}
}

func wantNoJoin(t *testing.T, e api.Errno, l ...string) {
	t.Helper()
	if s, ge := path.Join(l); s != "" || ge != e {
		t.Errorf("Join(%q) = %q, %v, not %v", l, s, ge, e)
	}
}

func TestJoin(t *testing.T) {
	wantJoin(t, "/")
	wantJoin(t, "/", []string{}...)
	wantJoin(t, "/a", "a")
	wantJoin(t, "/a/b.c", "a", "b.c")
	wantJoin(t, "/dom/1/dev/7/state", "dom", "1", "dev", "7", "state")
	wantJoin(t, deepest, "a", "b", "c", "d", "e", "f", "g", "h")
	wantJoin(t, "/"+longest+"/"+longest, longest, longest)
}

func TestNoJoin(t *testing.T) {
	long := longest + "a"
	wantNoJoin(t, api.ErrPath, "")
	wantNoJoin(t, api.ErrPath, "", "")
	wantNoJoin(t, api.ErrPath, "a", "")
	wantNoJoin(t, api.ErrPath, "/")
	wantNoJoin(t, api.ErrPath, "/a")
	wantNoJoin(t, api.ErrPath, "a/b")
	wantNoJoin(t, api.ErrPath, "a", "b c")
	wantNoJoin(t, api.ErrPath, "a", "\u00e9")
	wantNoJoin(t, api.ErrPath, "\xff")
	wantNoJoin(t, api.ErrPath, longest+"!")
	wantNoJoin(t, api.ErrLong, long)
	wantNoJoin(t, api.ErrLong, "a", long)
	wantNoJoin(t, api.ErrLong, long+"!")
	wantNoJoin(t, api.ErrLong, long, "!") // the first name's
	wantNoJoin(t, api.ErrPath, "!", long)
	wantNoJoin(t, api.ErrPath, "a", "", long)
}

func TestJoinTooMany(t *testing.T) {
	nine := slices.Repeat([]string{"a"}, 9)
	wantNoJoin(t, api.ErrLong, nine...)
	wantNoJoin(t, api.ErrLong, slices.Repeat([]string{"a"}, 1<<16)...)
	// More names than may be come ahead of the names' errors, and these ahead of the bytes.
	for _, bad := range []string{"", "!", "/", "\xff"} {
		for n := range 9 {
			l := slices.Clone(nine)
			l[n] = bad
			wantNoJoin(t, api.ErrLong, l...)
			if n < 8 {
				wantNoJoin(t, api.ErrPath, l[:8]...)
				l = slices.Repeat([]string{longest}, 8)
				l[n] = bad
				wantNoJoin(t, api.ErrPath, l...)
			}
		}
	}
}

func TestJoinToTheLongest(t *testing.T) {
	l := slices.Repeat([]string{longest}, 8)
	wantNoJoin(t, api.ErrLong, l...) // 264 bytes
	for n := range 32 {
		l[7] = longest[:n+1]
		s := "/" + strings.Join(l, "/")
		if len(s) <= 256 {
			wantJoin(t, s, l...)
		} else {
			wantNoJoin(t, api.ErrLong, l...)
		}
	}
	l[7] = longest[:24]
	if s, _ := path.Join(l); len(s) != 256 {
		t.Errorf("Join(%q) has %d bytes", l, len(s))
	}
	wantJoin(t, "/"+strings.Join(l[:7], "/"), l[:7]...)
}

// P9.2

func TestUnder(t *testing.T) {
	for _, c := range []struct {
		a, b string
		is   bool
	}{
		{"/a", "/a/b", true},
		{"/a", "/ab", false},
		{"/a", "/a", true},
		{"/", "/", true},
		{"/", "/x", true},
		{"/", deepest, true},
		{"/x", "/", false},
		{"/a/b", "/a", false},
		{"/a/b", "/a/b/c/d", true},
		{"/a/b", "/a/bc", false},
		{"/a/b", "/a/c/b", false},
		{"/a/b", "/b/a/b", false},
		{"/ab", "/a/b", false},
		{"/a", "/A", false},
		{"/a", "/b/a", false},
		{"/a.", "/a./b", true},
		{"/a", "/a.b", false},
		{deepest, deepest, true},
		{deepest, "/a/b/c/d/e/f/g", false},
		{"/a/b/c/d/e/f/g", deepest, true},
	} {
		if path.Under(c.a, c.b) != c.is {
			t.Errorf("Under(%q, %q) is not %v", c.a, c.b, c.is)
		}
	}
}

func TestUnderOfNoPaths(t *testing.T) {
	for _, no := range []string{"", "a", "//", "/a/", "/a//b", "/a b", "/\u00e9", "/\xff", deepest + "/i", deepest + "/", "/" + longest + "a", pathOf(256) + "q", of(1<<16, "/a")} {
		for _, is := range []string{"/", "/a", deepest, "/" + longest, pathOf(256), no} {
			if path.Under(is, no) {
				t.Errorf("%q is under %q", no, is)
			}
			if path.Under(no, is) {
				t.Errorf("%q is under %q", is, no)
			}
		}
	}
	if !path.Under(pathOf(256), pathOf(256)) {
		t.Error("the longest path is not under itself")
	}
}

// P4

func TestNamesAreNeitherChangedNorKept(t *testing.T) {
	l := []string{"a", "b", "c"}
	wantJoin(t, "/a", l[:1]...)
	wantJoin(t, "/a/b/c", l...)
	wantNoJoin(t, api.ErrPath, append(l, "")...)
	if !slices.Equal(l, []string{"a", "b", "c"}) {
		t.Errorf("what was handed in has been changed: %q", l)
	}
	first, _, _ := path.Parse("/a/b")
	first[0] = "x"
	first = append(first, "y")
	wantNames(t, "/a/b", "a", "b")
	if !slices.Equal(first, []string{"x", "b", "y"}) {
		t.Errorf("what was answered has been changed: %q", first)
	}
}
