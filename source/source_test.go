package source

import (
	"testing"
	"unicode/utf8"

	"trammel/api"
)

// firstBad is where the library finds the first byte that begins no sign.
func firstBad(s string) (int, bool) {
	for at := 0; at < len(s); {
		r, n := utf8.DecodeRuneInString(s[at:])
		if r == utf8.RuneError && n == 1 {
			return at, false
		}
		at += n
	}
	return 0, true
}

// P1.1: each sign that there is, alone and in a row.
func TestEverySign(t *testing.T) {
	for r := rune(0); r <= 0x10ffff; r++ {
		if r >= 0xd800 && r <= 0xdfff {
			continue
		}
		s := string(r)
		if at, ok := Valid(s); at != 0 || !ok {
			t.Fatalf("Valid(%x) = %d, %v", s, at, ok)
		}
		if n, e := Width(s, 0); n != len(s) || e != api.OK {
			t.Fatalf("Width(%x, 0) = %d, %d", s, n, e)
		}
	}
}

// P1.1: all pairs of a first and a second byte, with bytes behind that go on.
func TestEveryPair(t *testing.T) {
	for i := range 1 << 16 {
		for _, tail := range []string{"", "\x80", "\x80\xbf", "a", "\xbf\x80\x80"} {
			s := string([]byte{byte(i >> 8), byte(i)}) + tail
			wantAt, want := firstBad(s)
			if at, ok := Valid(s); at != wantAt || ok != want {
				t.Fatalf("Valid(%x) = %d, %v, want %d, %v", s, at, ok, wantAt, want)
			}
			for at := range s {
				checkWidth(t, s, at)
			}
		}
	}
}

func checkWidth(t *testing.T, s string, at int) {
	t.Helper()
	r, n := utf8.DecodeRuneInString(s[at:])
	want, wantError := n, api.OK
	if r == utf8.RuneError && n == 1 {
		want, wantError = 0, api.ErrSourceForm
	}
	if got, e := Width(s, at); got != want || e != wantError {
		t.Fatalf("Width(%x, %d) = %d, %d, want %d, %d", s, at, got, e, want, wantError)
	}
}

// P1.1: the edges that the promise names, and places that are none.
func TestEdges(t *testing.T) {
	for _, c := range []struct {
		s  string
		at int
		ok bool
	}{
		{"", 0, true},
		{"plain", 0, true},
		{"a\x00b", 0, true},
		{"é€𝄞", 0, true},
		{"\xc0\x80", 0, false},
		{"a\xc1\xbf", 1, false},
		{"\xe0\x9f\xbf", 0, false},
		{"\xed\xa0\x80", 0, false},
		{"\xed\x9f\xbf", 0, true},
		{"\xf0\x8f\xbf\xbf", 0, false},
		{"\xf4\x8f\xbf\xbf", 0, true},
		{"\xf4\x90\x80\x80", 0, false},
		{"\xf5\x80\x80\x80", 0, false},
		{"é\x80", 2, false},
		{"€\xe2\x82", 3, false},
		{"\xff", 0, false},
	} {
		if at, ok := Valid(c.s); at != c.at || ok != c.ok {
			t.Errorf("Valid(%x) = %d, %v, want %d, %v", c.s, at, ok, c.at, c.ok)
		}
	}
	for _, at := range []int{-1 << 63, -1, 3, 4, 1<<63 - 1} {
		if n, e := Width("abc", at); n != 0 || e != api.ErrSourceForm {
			t.Errorf("Width(abc, %d) = %d, %d", at, n, e)
		}
	}
	if n, e := Width("", 0); n != 0 || e != api.ErrSourceForm {
		t.Errorf("Width of nothing = %d, %d", n, e)
	}
}
