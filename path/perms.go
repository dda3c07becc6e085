package path

import (
	"slices"
	"strconv"
	"strings"

	"tenement/api"
)

// Letters of permissions.
const (
	mayNone  = 'n'
	mayRead  = 'r'
	mayWrite = 'w'
	mayBoth  = 'b'
	comma    = ','
	end      = -1 // no letter: it stands behind a text's last one
)

// Places in a part of permissions.
const (
	kindAt = iota
	domAt
	commaAt
	partBytes // of a part, with the comma behind it
)

// Perms tells the permissions of a text, else its first fault.
func Perms(s string) ([]api.Perm, int, api.Errno) {
	var p parts
	for at, r := range s {
		if place, e := p.take(at, r); e != api.OK {
			return nil, place, e
		}
	}
	if place, e := p.take(len(s), end); e != api.OK {
		return nil, place, e
	}
	return p.list, 0, api.OK
}

// parts are the permissions that were read so far, and the one that is read now.
type parts struct {
	list []api.Perm
	next api.Perm
}

// take reads the letter at a place, and tells where the fault is that it makes. All letters ahead have one byte each, so the place says which one of a part it is.
func (p *parts) take(at int, r rune) (int, api.Errno) {
	fits := false
	switch at % partBytes {
	case kindAt:
		if len(p.list) == api.MaxPerms {
			return at, api.ErrLong
		}
		p.next, fits = permOf(r)
	case domAt:
		p.next.Dom, fits = domainOf(r)
		if fits && hasDom(p.list, p.next.Dom) {
			return at - domAt, api.ErrTwice
		}
		p.list = append(p.list, p.next)
	case commaAt:
		fits = r == comma || r == end
	}
	if !fits {
		return at, api.ErrPath
	}
	return 0, api.OK
}

// permOf is what a letter says that a domain may.
func permOf(r rune) (api.Perm, bool) {
	switch r {
	case mayNone:
		return api.Perm{}, true
	case mayRead:
		return api.Perm{Read: true}, true
	case mayWrite:
		return api.Perm{Write: true}, true
	case mayBoth:
		return api.Perm{Read: true, Write: true}, true
	}
	return api.Perm{}, false
}

// letterOf is the letter that says what a domain may.
func letterOf(p api.Perm) rune {
	switch {
	case p.Read && p.Write:
		return mayBoth
	case p.Read:
		return mayRead
	case p.Write:
		return mayWrite
	}
	return mayNone
}

// domainOf is the domain whose number a letter is.
func domainOf(r rune) (int, bool) {
	dom := int(r) - '0'
	if !isDomain(dom) {
		return 0, false
	}
	return dom, true
}

func isDomain(dom int) bool { return dom >= 0 && dom < api.MaxDoms }

// hasDom tells whether one of the permissions is a domain's.
func hasDom(l []api.Perm, dom int) bool {
	return slices.ContainsFunc(l, func(p api.Perm) bool { return p.Dom == dom })
}

// Text tells permissions as text.
func Text(l []api.Perm) (string, api.Errno) {
	if len(l) == 0 || len(l) > api.MaxPerms {
		return "", api.ErrArg
	}
	var text strings.Builder
	for n, p := range l {
		if !isDomain(p.Dom) || hasDom(l[:n], p.Dom) {
			return "", api.ErrArg
		}
		if n > 0 {
			text.WriteRune(comma)
		}
		text.WriteRune(letterOf(p))
		text.WriteString(strconv.Itoa(p.Dom))
	}
	return text.String(), api.OK
}

// May tells whether a domain may read, and whether it may write.
func May(l []api.Perm, dom int) (bool, bool) {
	if len(l) == 0 {
		return false, false
	}
	first := l[0]
	if dom == 0 || dom == first.Dom {
		return true, true
	}
	for _, p := range l[1:] {
		if p.Dom == dom {
			return p.Read, p.Write
		}
	}
	return first.Read, first.Write
}
