package lex

import (
	"slices"
	"strconv"
	"strings"
	"testing"

	"trammel/api"
)

func name(s string, at int) api.Token { return api.Token{Kind: api.TokName, Text: s, At: at} }
func key(s string, at int) api.Token  { return api.Token{Kind: api.TokWord, Text: s, At: at} }
func mark(s string, at int) api.Token { return api.Token{Kind: api.TokSign, Text: s, At: at} }
func num(n int, at int) api.Token     { return api.Token{Kind: api.TokInt, Num: n, At: at} }

const keywords = "fun let rec in if then else handle with return end do op true false int bool"

func TestKeyword(t *testing.T) {
	words := strings.Fields(keywords)
	if len(words) != 17 {
		t.Fatal(len(words))
	}
	for _, w := range words {
		if !Keyword(w) {
			t.Errorf("%s is none", w)
		}
		for _, other := range []string{w + "s", w[1:], strings.ToUpper(w), " " + w, w + " "} {
			if Keyword(other) && !slices.Contains(words, other) {
				t.Errorf("%q is one", other)
			}
		}
		got, at, e := Tokens(w)
		if e != api.OK || at != 0 || !slices.Equal(got, []api.Token{key(w, 0)}) {
			t.Errorf("Tokens(%s) = %v, %d, %d", w, got, at, e)
		}
	}
	for _, s := range []string{"", "x", "funs", "->", "rec_", "9"} {
		if Keyword(s) {
			t.Errorf("%q is one", s)
		}
	}
}

func TestTokens(t *testing.T) {
	long := strings.Repeat("a", api.MaxName)
	for _, c := range []struct {
		s    string
		want []api.Token
	}{
		{"", nil},
		{" \t\n", nil},
		{"# remark", nil},
		{"# \r é€𝄞 ( \x00", nil},
		{"#\n#\nx", []api.Token{name("x", 4)}},
		{"#a\nb#c\nd", []api.Token{name("b", 3), name("d", 7)}},
		{"x", []api.Token{name("x", 0)}},
		{"x_1 y", []api.Token{name("x_1", 0), name("y", 4)}},
		{"az za09", []api.Token{name("az", 0), name("za09", 3)}},
		{long, []api.Token{name(long, 0)}},
		{"fun x->x", []api.Token{key("fun", 0), name("x", 4), mark("->", 5), name("x", 7)}},
		{"funx", []api.Token{name("funx", 0)}},
		{"fun1 let_", []api.Token{name("fun1", 0), name("let_", 5)}},
		{"0", []api.Token{num(0, 0)}},
		{" 10 1073741823", []api.Token{num(10, 1), num(1073741823, 4)}},
		{"1(2", []api.Token{num(1, 0), mark("(", 1), num(2, 2)}},
		{"a==b", []api.Token{name("a", 0), mark("==", 1), name("b", 3)}},
		{"===", []api.Token{mark("==", 0), mark("=", 2)}},
		{"=->", []api.Token{mark("=", 0), mark("->", 1)}},
		{"-->", []api.Token{mark("-", 0), mark("->", 1)}},
		{"- >"[:1], []api.Token{mark("-", 0)}},
		{"()+-*/<;:=", []api.Token{mark("(", 0), mark(")", 1), mark("+", 2), mark("-", 3), mark("*", 4),
			mark("/", 5), mark("<", 6), mark(";", 7), mark(":", 8), mark("=", 9)}},
	} {
		got, at, e := Tokens(c.s)
		if at != 0 || e != api.OK || !slices.Equal(got, c.want) {
			t.Errorf("Tokens(%q) = %v, %d, %d, want %v", c.s, got, at, e, c.want)
		}
	}
}

func TestRefusals(t *testing.T) {
	long := strings.Repeat("a", api.MaxName+1)
	for _, c := range []struct {
		s    string
		at   int
		want api.Errno
	}{
		{strings.Repeat(" ", api.MaxText+1), 0, api.ErrLexForm},
		{strings.Repeat("\xff", api.MaxText+1), 0, api.ErrLexForm},
		{"x \xff", 2, api.ErrLexForm},
		{"$ \xff", 2, api.ErrLexForm},
		{"# \xed\xa0\x80", 2, api.ErrLexForm},
		{long, 0, api.ErrLexByte},
		{"x " + long, 2, api.ErrLexByte},
		{"x $", 2, api.ErrLexByte},
		{"\r", 0, api.ErrLexByte},
		{"\v", 0, api.ErrLexByte},
		{"_x", 0, api.ErrLexByte},
		{"X", 0, api.ErrLexByte},
		{"xY", 1, api.ErrLexByte},
		{"x é", 2, api.ErrLexByte},
		{">", 0, api.ErrLexByte},
		{"- >", 2, api.ErrLexByte},
		{"\x00", 0, api.ErrLexByte},
		{"00", 0, api.ErrLexInt},
		{" 01", 1, api.ErrLexInt},
		{"1x", 0, api.ErrLexInt},
		{"1_", 0, api.ErrLexInt},
		{"1073741824", 0, api.ErrLexInt},
		{"9" + strings.Repeat("0", 400), 0, api.ErrLexInt},
		{"18446744073709551617", 0, api.ErrLexInt},
		{"1x $", 0, api.ErrLexInt},
		{"$ 1x", 0, api.ErrLexByte},
	} {
		got, at, e := Tokens(c.s)
		if got != nil || at != c.at || e != c.want {
			t.Errorf("Tokens(%.20q) = %v, %d, %d, want %d, %d", c.s, got, at, e, c.at, c.want)
		}
	}
}

func TestGreatestText(t *testing.T) {
	s := strings.Repeat(" ", api.MaxText-1) + "x"
	if got, at, e := Tokens(s); e != api.OK || at != 0 || !slices.Equal(got, []api.Token{name("x", api.MaxText-1)}) {
		t.Errorf("%v, %d, %d", got, at, e)
	}
}

// Whatever tokens are told, they tell the text again, but for blanks and remarks.
func TestTokensTellTheText(t *testing.T) {
	pieces := []string{"fun", "x", "y_2", "12", "0", "->", "-", "==", "=", "<", "(", ")", " ", "\n", "#z\n", "+", "end"}
	seed := uint32(7)
	for range 5000 {
		var text strings.Builder
		for range 12 {
			seed = seed*1664525 + 1013904223
			text.WriteString(pieces[seed>>16%uint32(len(pieces))])
		}
		s := text.String()
		tokens, at, e := Tokens(s)
		if e != api.OK {
			if at < 0 || at >= len(s) || tokens != nil {
				t.Fatalf("Tokens(%q): %v, %d, %d", s, tokens, at, e)
			}
			continue
		}
		end := 0
		for _, token := range tokens {
			told := token.Text
			if token.Kind == api.TokInt {
				told = strconv.Itoa(token.Num)
			}
			if token.At < end || !strings.HasPrefix(s[token.At:], told) {
				t.Fatalf("Tokens(%q): %v", s, tokens)
			}
			end = token.At + len(told)
		}
	}
}
