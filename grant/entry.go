package grant

import "tenement/api"

// Kinds of entries. One of no kind grants nothing.
const (
	noKind   = 0
	permit   = 1
	transfer = 2
)

// The bits of an entry's flags, ahead of all those that must be 0.
const (
	kindBits = 3
	roBit    = 4
	subBit   = 8
	allBits  = kindBits | roBit | subBit
)

const entryBytes = 8

// maxWord is the greatest number of two bytes.
const maxWord = 1<<16 - 1

// Pack tells the bytes of an entry.
func Pack(g api.Grant) ([]byte, api.Errno) {
	if !packs(g) {
		return nil, api.ErrArg
	}
	flags := g.Kind
	if g.RO {
		flags |= roBit
	}
	if g.Sub {
		flags |= subBit
	} else {
		g.Off, g.Len = 0, api.PageBytes
	}
	b := append(bytesOf(flags), bytesOf(g.Dom)...)
	b = append(b, bytesOf(g.Gpfn)...)
	// A whole page's 256 bytes would not go into one, so that the length is told less 1.
	return append(b, byte(g.Off), byte(g.Len-1)), api.OK
}

// Unpack tells the entry of eight bytes.
func Unpack(b []byte) (api.Grant, api.Errno) {
	if len(b) != entryBytes {
		return api.Grant{}, api.ErrArg
	}
	flags := wordAt(b, 0)
	g := api.Grant{
		Kind: flags & kindBits,
		RO:   flags&roBit != 0,
		Sub:  flags&subBit != 0,
		Dom:  wordAt(b, 2),
		Gpfn: wordAt(b, 4),
		Len:  api.PageBytes,
	}
	if g.Sub {
		g.Off, g.Len = int(b[6]), int(b[7])+1
	}
	if flags > allBits || !packs(g) {
		return api.Grant{}, api.ErrGrant
	}
	return g, api.OK
}

// packs tells whether an entry has bytes.
func packs(g api.Grant) bool {
	return g.Kind >= noKind && g.Kind <= transfer && isWord(g.Dom) && isWord(g.Gpfn) && inPage(g.Off, g.Len)
}

// inPage tells whether a part of at least a byte that begins at off lies in a page. Nothing is added up, for a sum could go past an int.
func inPage(off int, n int) bool {
	return off >= 0 && n >= 1 && n <= api.PageBytes-off
}

func isWord(n int) bool { return n >= 0 && n <= maxWord }

// wordAt is the number of two bytes, the lower one first.
func wordAt(b []byte, at int) int { return int(b[at]) | int(b[at+1])<<8 }

func bytesOf(n int) []byte { return []byte{byte(n), byte(n >> 8)} }
