// Package octet is layer 1: numbers and texts as bytes. See shared/doc/01-octet.md.
package octet

import (
	"strconv"
	"strings"

	"postchaise/api"
)

const (
	mostDigits = 13 // as many as api.MaxNumber has
	mostSize   = 4
	mostWidth  = 20
	hexDigits  = "0123456789abcdef"
)

// Text: n in decimal digits (P1.1).
func Text(n int) string { return strconv.Itoa(n) }

// Number: the number that s says in decimal digits (P1.2).
func Number(s string) (int, api.Errno) {
	if !areDigits(s) || len(s) > 1 && s[0] == '0' {
		return 0, api.ErrForm
	}
	// The digits are counted ahead of the sum, so that it never leaves an int.
	if len(s) > mostDigits {
		return 0, api.ErrLong
	}
	n := 0
	for i := range len(s) {
		n = n*10 + int(s[i]-'0')
	}
	if n > api.MaxNumber {
		return 0, api.ErrLong
	}
	return n, api.OK
}

func areDigits(s string) bool {
	for i := range len(s) {
		if s[i] < '0' || s[i] > '9' {
			return false
		}
	}
	return s != ""
}

// Put: n as size bytes, the highest first (P1.3).
func Put(n, size int) (string, api.Errno) {
	if !isSize(size) {
		return "", api.ErrArg
	}
	if n < 0 || n>>(8*size) != 0 {
		return "", api.ErrLong
	}
	var b [mostSize]byte
	for i := range size {
		b[size-1-i] = byte(n >> (8 * i))
	}
	return string(b[:size]), api.OK
}

// Get: the number that Put wrote as the size bytes of s from at on (P1.3).
func Get(s string, at, size int) (int, api.Errno) {
	if !isSize(size) || at < 0 {
		return 0, api.ErrArg
	}
	// Not at+size > len(s): at may stand at the end of int.
	if at > len(s)-size {
		return 0, api.ErrShort
	}
	n := 0
	for i := range size {
		n = n<<8 | int(s[at+i])
	}
	return n, api.OK
}

func isSize(size int) bool { return 1 <= size && size <= mostSize }

// Fixed: n's digits with noughts ahead, width in all (P1.4).
func Fixed(n, width int) (string, api.Errno) {
	if width < 1 || width > mostWidth || n < 0 {
		return "", api.ErrArg
	}
	var b [mostWidth]byte
	rest := n
	for i := range width {
		b[width-1-i] = byte('0' + rest%10)
		rest /= 10
	}
	if rest != 0 {
		return "", api.ErrLong
	}
	return string(b[:width]), api.OK
}

// Quote: s in bytes that can be seen, without blanks (P1.5).
func Quote(s string) string {
	var b strings.Builder
	for i := range len(s) {
		c := s[i]
		if isPlain(c) {
			b.WriteByte(c)
			continue
		}
		b.WriteByte('\\')
		b.WriteByte(hexDigits[c>>4])
		b.WriteByte(hexDigits[c&15])
	}
	return b.String()
}

// Unquote: the text whose Quote s is (P1.5).
func Unquote(s string) (string, api.Errno) {
	var b strings.Builder
	for rest := s; rest != ""; {
		c, size, ok := unquoteFirst(rest)
		if !ok {
			return "", api.ErrForm
		}
		b.WriteByte(c)
		rest = rest[size:]
	}
	return b.String(), api.OK
}

// unquoteFirst: the byte that s, which is not empty, begins with, and how many bytes say it.
func unquoteFirst(s string) (byte, int, bool) {
	if isPlain(s[0]) {
		return s[0], 1, true
	}
	if s[0] != '\\' || len(s) < 3 {
		return 0, 0, false
	}
	high := strings.IndexByte(hexDigits, s[1])
	low := strings.IndexByte(hexDigits, s[2])
	if high < 0 || low < 0 {
		return 0, 0, false
	}
	// A text has one Quote alone, in which no plain byte stands as digits.
	c := byte(high<<4 | low)
	if isPlain(c) {
		return 0, 0, false
	}
	return c, 3, true
}

// isPlain: whether c stands as it is in a Quote.
func isPlain(c byte) bool { return 33 <= c && c <= 126 && c != '\\' }
