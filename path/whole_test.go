package path_test

import (
	"regexp"
	"slices"
	"strconv"
	"strings"
	"testing"
	"unicode/utf8"

	"tenement/api"
	"tenement/path"
)

// dice makes numbers by a fixed rule.
type dice uint32

func (d *dice) below(n int) int {
	*d = *d*1664525 + 1013904223
	return int(*d>>12) % n
}

func (d *dice) of(l ...string) string { return l[d.below(len(l))] }

// text is pieces one behind the other.
func (d *dice) text(n int, pieces ...string) string {
	s := ""
	for range d.below(n + 1) {
		s += d.of(pieces...)
	}
	return s
}

// bent is a text with a piece laid over or into it at some place, or cut there.
func (d *dice) bent(s string, pieces ...string) string {
	at := d.below(len(s) + 1)
	switch d.below(4) {
	case 0:
		return s[:at]
	case 1:
		return s[:at] + d.of(pieces...) + s[at:]
	case 2:
		return s[:at] + d.of(pieces...) + s[min(at+1, len(s)):]
	}
	return s
}

func (d *dice) name() string {
	n := []int{1, 1, 1, 2, 3, 31, 32, 32}[d.below(8)]
	s := ""
	for range n {
		s += string(letters[d.below(len(letters))])
	}
	return s
}

// path is one of 0 to 8 names; it may be too long.
func (d *dice) path() string {
	s := ""
	for range d.below(9) {
		s += "/" + d.name()
	}
	if s == "" {
		return "/"
	}
	return s
}

// What a text must look like, and each beginning of one that can go on: these patterns know no places and no order of faults.
var (
	namePattern  = regexp.MustCompile(`^[a-zA-Z0-9_.@-]{1,32}$`)
	nameBegins   = regexp.MustCompile(`^[a-zA-Z0-9_.@-]{0,32}$`)
	pathPattern  = regexp.MustCompile(`^(/|(/[a-zA-Z0-9_.@-]{1,32}){1,8})$`)
	pathBegins   = regexp.MustCompile(`^((/[a-zA-Z0-9_.@-]{1,32}){0,8}/?|(/[a-zA-Z0-9_.@-]{1,32}){0,7}/[a-zA-Z0-9_.@-]{0,32})$`)
	permsPattern = regexp.MustCompile(`^[nrwb][0-7](,[nrwb][0-7]){0,7}$`)
	permsBegin   = regexp.MustCompile(`^([nrwb][0-7],){0,8}$|^([nrwb][0-7],){0,7}[nrwb][0-7]?$`)
)

// stop is the place of the first letter that ends what can go on, and that letter; else the end, and no letter.
func stop(begins *regexp.Regexp, s string) (int, string) {
	for at := 0; at < len(s); {
		_, n := utf8.DecodeRuneInString(s[at:])
		if !begins.MatchString(s[:at+n]) {
			return at, s[at : at+n]
		}
		at += n
	}
	return len(s), ""
}

func ghostName(s string) (int, api.Errno) {
	if namePattern.MatchString(s) {
		return 0, api.OK
	}
	at, letter := stop(nameBegins, s)
	if namePattern.MatchString(letter) {
		return at, api.ErrLong
	}
	return at, api.ErrPath
}

func ghostParse(s string) ([]string, int, api.Errno) {
	switch {
	case len(s) > 256:
		return nil, 0, api.ErrLong
	case s == "/":
		return nil, 0, api.OK
	case pathPattern.MatchString(s):
		return strings.Split(s, "/")[1:], 0, api.OK
	}
	at, letter := stop(pathBegins, s)
	// Where a path has begun, a name's letter that ends it is one too many.
	if strings.Count(s[:at], "/") == 9 || at > 0 && namePattern.MatchString(letter) {
		return nil, at, api.ErrLong
	}
	return nil, at, api.ErrPath
}

func ghostPerms(s string) ([]api.Perm, int, api.Errno) {
	at, _ := stop(permsBegin, s)
	if permsPattern.MatchString(s) {
		at = len(s) + 1
	}
	var l []api.Perm
	for n := 0; n+2 <= min(at, len(s)); n += 3 {
		dom, _ := strconv.Atoi(s[n+1 : n+2])
		if strings.Contains(s[:n], s[n+1:n+2]) {
			return nil, n, api.ErrTwice
		}
		l = append(l, api.Perm{Dom: dom, Read: strings.Contains("rb", s[n:n+1]), Write: strings.Contains("wb", s[n:n+1])})
	}
	switch {
	case at > len(s):
		return l, 0, api.OK
	case at == 24:
		return nil, at, api.ErrLong
	}
	return nil, at, api.ErrPath
}

// seen counts what was answered, so that a test can ask that it has met all of it.
type seen map[api.Errno]int

func (x seen) wantAll(t *testing.T, l ...api.Errno) {
	t.Helper()
	for _, e := range l {
		if x[e] < 50 {
			t.Errorf("%v was met %d times alone", e, x[e])
		}
	}
}

func TestNamesAgainstAGhost(t *testing.T) {
	d, met := dice(1), seen{}
	for range 20000 {
		s := d.bent(d.name(), "a", "Z", "!", "/", " ", "\u00e9", "\xe2\x82", "\xff", "\ufffd", longest)
		at, e := path.Name(s)
		if wanted, we := ghostName(s); at != wanted || e != we {
			t.Fatalf("Name(%q) = %d, %v, not %d, %v", s, at, e, wanted, we)
		}
		met[e]++
	}
	met.wantAll(t, api.OK, api.ErrPath, api.ErrLong)
}

func TestPathsAgainstAGhost(t *testing.T) {
	d, met := dice(2), seen{}
	for n := range 40000 {
		s := d.bent(d.bent(d.path(), "/", "a", "/b"), "/", "//", "!", "\u00e9", "\xc3", "\xff", "a", "/c/d")
		if n%4 == 0 {
			s = d.text(20, "/", "/a", "/b.c", "/"+longest, "a", "!", "\u20ac")
		}
		l, at, e := path.Parse(s)
		wanted, place, we := ghostParse(s)
		if !slices.Equal(l, wanted) || at != place || e != we {
			t.Fatalf("Parse(%q) = %q, %d, %v, not %q, %d, %v", s, l, at, e, wanted, place, we)
		}
		met[e]++
	}
	met.wantAll(t, api.OK, api.ErrPath, api.ErrLong)
}

func TestPermsAgainstAGhost(t *testing.T) {
	d, met := dice(3), seen{}
	for n := range 40000 {
		s := d.bent(full[:d.below(len(full)+1)], ",", "r0", "r", "n7,", ",w1", "8", "x", "\u00e9", "\xff")
		if n%2 == 0 {
			s = d.text(8, "r0,", "w1,", "b2,", "n3,", "r4,", "w5,", "b6,", "n7,", "r0", "b7", ",", "r", "x")
		}
		if n%8 == 0 {
			s = full + d.text(3, ",", "r0", "x", "\u00e9")
		}
		l, at, e := path.Perms(s)
		wanted, place, we := ghostPerms(s)
		if !slices.Equal(l, wanted) || at != place || e != we {
			t.Fatalf("Perms(%q) = %v, %d, %v, not %v, %d, %v", s, l, at, e, wanted, place, we)
		}
		met[e]++
	}
	met.wantAll(t, api.OK, api.ErrPath, api.ErrTwice, api.ErrLong)
}

// P9.4

// Join undoes Parse, and Parse undoes Join.
func TestJoinUndoesParse(t *testing.T) {
	d := dice(4)
	paths := []string{"/", deepest, "/" + longest, pathOf(256)}
	for range 5000 {
		paths = append(paths, d.path())
	}
	for _, s := range paths {
		l, _, e := path.Parse(s)
		if len(s) > 256 {
			if e != api.ErrLong {
				t.Errorf("Parse(%q): %v", s, e)
			}
			continue
		}
		again, je := path.Join(l)
		if e != api.OK || je != api.OK || again != s {
			t.Fatalf("Join(%q) = %q, %v, not %q", l, again, je, s)
		}
	}
}

func TestParseUndoesJoin(t *testing.T) {
	d := dice(5)
	for range 5000 {
		var l []string
		for range d.below(10) {
			l = append(l, d.bent(d.name(), "a", "!", "/", longest))
		}
		s, e := path.Join(l)
		if e != api.OK {
			continue
		}
		if again, _, pe := path.Parse(s); !slices.Equal(again, l) || pe != api.OK {
			t.Fatalf("Parse(%q) = %q, %v, not %q", s, again, pe, l)
		}
	}
}

// perms is a list that Text takes: the domains in some order, as far as they are dealt.
func (d *dice) perms() []api.Perm {
	doms := []int{0, 1, 2, 3, 4, 5, 6, 7}
	for n := range doms {
		other := n + d.below(len(doms)-n)
		doms[n], doms[other] = doms[other], doms[n]
	}
	var l []api.Perm
	for _, dom := range doms[:1+d.below(8)] {
		l = append(l, api.Perm{Dom: dom, Read: d.below(2) == 0, Write: d.below(2) == 0})
	}
	return l
}

func TestTextUndoesPerms(t *testing.T) {
	d := dice(6)
	for range 5000 {
		l := d.perms()
		s, e := path.Text(l)
		again, _, pe := path.Perms(s)
		if e != api.OK || pe != api.OK || !slices.Equal(again, l) {
			t.Fatalf("Perms(%q) = %v, %v, not %v", s, again, pe, l)
		}
		if back, be := path.Text(again); back != s || be != api.OK {
			t.Fatalf("Text(%v) = %q, %v, not %q", again, back, be, s)
		}
	}
}

// Under is what the texts say: the same, or begun by the other and a separator.
func TestUnderLeadsOn(t *testing.T) {
	paths := []string{"/"}
	for n := 0; n < len(paths) && len(paths) < 100; n++ {
		for _, name := range []string{"a", "ab", "b"} {
			paths = append(paths, strings.TrimSuffix(paths[n], "/")+"/"+name)
		}
	}
	under := map[[2]string]bool{}
	for _, a := range paths {
		for _, b := range paths {
			under[[2]string{a, b}] = path.Under(a, b)
			if wanted := a == b || strings.HasPrefix(b, strings.TrimSuffix(a, "/")+"/"); path.Under(a, b) != wanted {
				t.Errorf("Under(%q, %q) is not %v", a, b, wanted)
			}
		}
	}
	for _, a := range paths {
		for _, b := range paths {
			if a != b && under[[2]string{a, b}] && under[[2]string{b, a}] {
				t.Errorf("%q and %q are under one another", a, b)
			}
			for _, c := range paths {
				if under[[2]string{a, b}] && under[[2]string{b, c}] && !under[[2]string{a, c}] {
					t.Errorf("Under leads from %q to %q to %q, and not on", a, b, c)
				}
			}
		}
	}
}

// The chapter's examples.
func TestExamples(t *testing.T) {
	wantNoName(t, fault{"a b", 1, api.ErrPath})
	wantNames(t, "/dom/1", "dom", "1")
	wantNoPath(t, fault{"/a//b", 3, api.ErrPath})
	wantNoPath(t, fault{"/a/", 3, api.ErrPath})
	wantNoPath(t, fault{"a", 0, api.ErrPath})
	if !path.Under("/a", "/a/b") || path.Under("/a", "/ab") {
		t.Error("Under")
	}
	wantPerms(t, "n0,r1", api.Perm{Dom: 0}, api.Perm{Dom: 1, Read: true})
	wantNoPerms(t, fault{"r0,r0", 3, api.ErrTwice})
	wantNoPerms(t, fault{"r8", 1, api.ErrPath})
}
