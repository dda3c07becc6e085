package cons_test

import (
	"fmt"
	"strings"
	"testing"

	"tenement/cons"
)

// encode lays a letter's number into n bytes, as UTF-8 does, whether or not it may have so many.
func encode(r, n int) []byte {
	if n == 1 {
		return []byte{byte(r)}
	}
	b := make([]byte, n)
	for i := n - 1; i > 0; i-- {
		b[i] = byte(128 + r%64)
		r /= 64
	}
	b[0] = byte(0xf00>>n&0xff | r)
	return b
}

// letter is the number of the letter that begins a list of bytes, and of how many it is; of none if it begins with no letter.
func letter(b []byte) (int, int) {
	// Of each row: the first byte, the second byte, how many there are. All others are from 128 to 191.
	for _, row := range [][5]int{
		{0x00, 0x7f, 0, 0, 1},
		{0xc2, 0xdf, 0x80, 0xbf, 2},
		{0xe0, 0xe0, 0xa0, 0xbf, 3},
		{0xe1, 0xec, 0x80, 0xbf, 3},
		{0xed, 0xed, 0x80, 0x9f, 3},
		{0xee, 0xef, 0x80, 0xbf, 3},
		{0xf0, 0xf0, 0x90, 0xbf, 4},
		{0xf1, 0xf3, 0x80, 0xbf, 4},
		{0xf4, 0xf4, 0x80, 0x8f, 4},
	} {
		n := row[4]
		if int(b[0]) < row[0] || int(b[0]) > row[1] || len(b) < n {
			continue
		}
		if n == 1 {
			return int(b[0]), 1
		}
		if int(b[1]) < row[2] || int(b[1]) > row[3] {
			continue
		}
		r := int(b[0]) % (1 << (7 - n))
		for i := 1; i < n; i++ {
			if b[i]/64 != 2 {
				return 0, 0
			}
			r = r*64 + int(b[i]%64)
		}
		return r, n
	}
	return 0, 0
}

// shown is what Show must tell.
func shown(b []byte) string {
	var s strings.Builder
	for len(b) > 0 {
		r, n := letter(b)
		switch {
		case n == 1 && r == 92:
			s.WriteString("\\\\")
		case n > 0 && (32 <= r && r <= 126 || r >= 160):
			s.Write(b[:n])
		default:
			n = max(n, 1)
			for _, one := range b[:n] {
				fmt.Fprintf(&s, "\\x%02x", one)
			}
		}
		b = b[n:]
	}
	return s.String()
}

func wantShown(t *testing.T, b []byte, s string) {
	t.Helper()
	was := string(b)
	if is := cons.Show(b); is != s {
		t.Fatalf("Show(%x) = %q, not %q", b, is, s)
	}
	if string(b) != was {
		t.Fatalf("Show has changed %x", was)
	}
}

// P16.1

func TestShow(t *testing.T) {
	for text, s := range map[string]string{
		"":                         "",
		"hi, ~":                    "hi, ~",
		" ":                        " ",
		"\x1f":                     `\x1f`,
		"\x7f":                     `\x7f`,
		"\n":                       `\x0a`,
		"\x00":                     `\x00`,
		`\`:                        `\\`,
		`\x0a`:                     `\\x0a`,
		"a\n\u00e9\xff\\":          "a\\x0a\u00e9\\xff\\\\",
		"\u0080":                   `\xc2\x80`,
		"\u009f":                   `\xc2\x9f`,
		"\u00a0":                   "\u00a0",
		"\u00c5":                   "\u00c5",
		"\ufffd":                   "\ufffd",
		"\xef\xbf":                 `\xef\xbf`,
		"\xff\ufffd\xff":           "\\xff\ufffd\\xff",
		"\xc3":                     `\xc3`,
		"\xa9":                     `\xa9`,
		"\xc3a":                    `\xc3a`,
		"\xc3\u00e9":               "\\xc3\u00e9",
		"\xc0\x80":                 `\xc0\x80`,
		"\xe2\x82":                 `\xe2\x82`,
		"\xe2\x82\xac":             "\u20ac",
		"\xed\xa0\x80":             `\xed\xa0\x80`,
		"\xf0\x9f\x98\x80":         "\U0001f600",
		"\xf0\x9f\x98":             `\xf0\x9f\x98`,
		"\xf4\x8f\xbf\xbf":         "\U0010ffff",
		"\xf4\x90\x80\x80":         `\xf4\x90\x80\x80`,
		"\xf8\x88\x80\x80\x80":     `\xf8\x88\x80\x80\x80`,
		"\xAB\xCD\xEF":             `\xab\xcd\xef`,
		"a\u0085b\u2028c\ufeffd\t": "a\\xc2\\x85b\u2028c\ufeffd\\x09",
	} {
		wantShown(t, []byte(text), s)
	}
	wantShown(t, nil, "")
	wantShown(t, []byte{}, "")
}

// All letters, and all numbers that are none, in as many bytes as they need and in more.
func TestShowEachLetter(t *testing.T) {
	for r := range 0x110000 + 0x1000 {
		need := 4
		switch {
		case r < 0x80:
			need = 1
		case r < 0x800:
			need = 2
		case r < 0x10000:
			need = 3
		}
		for n := need; n <= 4; n++ {
			b := encode(r, n)
			s := string(b)
			hidden := r < 32 || 127 <= r && r < 160 || 0xd800 <= r && r < 0xe000 || r > 0x10ffff || n > need
			switch {
			case hidden:
				s = ""
				for _, one := range b {
					s += `\x` + string("0123456789abcdef"[one/16]) + string("0123456789abcdef"[one%16])
				}
			case r == 92:
				s = `\\`
			}
			wantShown(t, b, s)
		}
	}
}

func TestShowAllPairs(t *testing.T) {
	for i := range 256 {
		wantShown(t, []byte{byte(i)}, shown([]byte{byte(i)}))
		for j := range 256 {
			b := []byte{byte(i), byte(j)}
			wantShown(t, b, shown(b))
		}
	}
}

// Bytes in fours, of those at which something ends or begins.
func TestShowFours(t *testing.T) {
	edges := []byte{0, 10, 31, 32, 'a', '\\', 126, 127, 128, 0x8f, 0x90, 0x9f, 0xa0, 0xbf, 0xc0, 0xc1, 0xc2, 0xc3, 0xdf, 0xe0, 0xe1, 0xec, 0xed, 0xee, 0xef, 0xf0, 0xf1, 0xf3, 0xf4, 0xf5, 0xf8, 0xff}
	b := make([]byte, 4)
	for _, b[0] = range edges {
		for _, b[1] = range edges {
			for _, b[2] = range edges {
				for _, b[3] = range edges {
					wantShown(t, b, shown(b))
				}
			}
		}
	}
}

func TestShowLongTexts(t *testing.T) {
	d := new(dice)
	parts := []string{"a", "\\", "\n", "\u00e9", "\u0085", "\ufffd", "\U0001f600", "\xff", "\xc3", "\xe2\x82", "\xa9"}
	for range 300 {
		text := ""
		for range d.of(1, 5, 40, 300) {
			text += parts[d.of(0, 1, 2, 3, 4, 5, 6, 7, 8, 9, 10)]
		}
		wantShown(t, []byte(text), shown([]byte(text)))
	}
	long := strings.Repeat("\\", 1<<16)
	wantShown(t, []byte(long), long+long)
}
