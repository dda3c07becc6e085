package cons

import (
	"strings"
	"unicode/utf8"
)

const digits = "0123456789abcdef"

// Show tells bytes as a text that can be printed: what is no letter to be seen stands there byte by byte, in base 16.
func Show(b []byte) string {
	text := string(b)
	var shown strings.Builder
	for at, r := range text {
		// A byte of no letter comes as a rune that is a letter's too; but that one is longer.
		_, size := utf8.DecodeRuneInString(text[at:])
		broken := r == utf8.RuneError && size == 1
		switch {
		case broken || !visible(r):
			hide(&shown, text[at:at+size])
		case r == '\\':
			shown.WriteString(`\\`)
		default:
			shown.WriteRune(r)
		}
	}
	return shown.String()
}

// visible tells whether a letter is shown as it is, if nothing else speaks against it.
func visible(r rune) bool {
	return ' ' <= r && r <= '~' || r >= 0xa0
}

// hide tells the bytes of a text by their digits.
func hide(shown *strings.Builder, text string) {
	for _, b := range []byte(text) {
		shown.WriteString(`\x`)
		shown.WriteByte(digits[b>>4])
		shown.WriteByte(digits[b&15])
	}
}
