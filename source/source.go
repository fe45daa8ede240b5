// Package source tells where the signs of a text in UTF-8 stand (DOC.md, chapter 1).
package source

import (
	"trammel/api"
)

// Valid tells whether s is UTF-8; if it is not, where its first byte stands that begins no sign.
func Valid(s string) (int, bool) {
	for at := 0; at < len(s); {
		n := sign(s[at:])
		if n == 0 {
			return at, false
		}
		at += n
	}
	return 0, true
}

// Width tells how many bytes the sign has that begins at a place of s.
func Width(s string, at int) (int, api.Errno) {
	if at < 0 || at >= len(s) {
		return 0, api.ErrSourceForm
	}
	n := sign(s[at:])
	if n == 0 {
		return 0, api.ErrSourceForm
	}
	return n, api.OK
}

// sign is how many bytes the sign has that s, which is not empty, begins with; 0: s begins with none.
func sign(s string) int {
	n := lead(s[0])
	if n > len(s) {
		return 0
	}
	low, high := second(s[0])
	for i := 1; i < n; i++ {
		if s[i] < low || s[i] > high {
			return 0
		}
		low, high = 0x80, 0xbf
	}
	return n
}

// lead is how many bytes a sign has whose first byte is this one; 0: no sign begins so.
func lead(first byte) int {
	n := 0
	switch {
	case first >= 0xf5:
		return 0
	case first >= 0xf0:
		n++
		fallthrough
	case first >= 0xe0:
		n++
		fallthrough
	case first >= 0xc2:
		n++
		fallthrough
	case first < 0x80:
		n++
	}
	return n
}

// second is from where to where a second byte may be behind this first one: it is here that longer
// forms, surrogates and what is beyond U+10FFFF are kept out.
func second(first byte) (byte, byte) {
	switch first {
	case 0xe0:
		return 0xa0, 0xbf
	case 0xed:
		return 0x80, 0x9f
	case 0xf0:
		return 0x90, 0xbf
	case 0xf4:
		return 0x80, 0x8f
	}
	return 0x80, 0xbf
}
