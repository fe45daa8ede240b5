package parse

import (
	"errors"
	"fmt"
	"slices"
	"strings"
	"testing"

	"trammel/api"
	"trammel/tree"
)

// dump writes a part with all that is in its nodes but At.
func dump(ns []api.Node, at int) string {
	n := ns[at]
	part := func(i int) string { return dump(ns, i) }
	switch n.Kind {
	case api.NodeVar:
		return n.Name
	case api.NodeInt:
		return fmt.Sprint(n.Num)
	case api.NodeBool:
		return fmt.Sprintf("b%d", n.Num)
	case api.NodeFun:
		return fmt.Sprintf("[fun %s %s]", n.X, part(n.A))
	case api.NodeApp:
		return fmt.Sprintf("[%s %s]", part(n.A), part(n.B))
	case api.NodeLet:
		return fmt.Sprintf("[let %s %s %s]", n.X, part(n.A), part(n.B))
	case api.NodeRec:
		return fmt.Sprintf("[rec %s %s %s %s]", n.X, n.Y, part(n.A), part(n.B))
	case api.NodeIf:
		return fmt.Sprintf("[if %s %s %s]", part(n.A), part(n.B), part(n.C))
	case api.NodePrim:
		return fmt.Sprintf("[%c %s %s]", "+-*/=<"[n.Num], part(n.A), part(n.B))
	case api.NodeDo:
		return fmt.Sprintf("[do %s %s]", n.Name, part(n.A))
	}
	return fmt.Sprintf("[handle %s %s %s %s %s %s %s]", part(n.A), n.Name, n.X, n.Y, part(n.B), n.Z, part(n.C))
}

func TestGrammar(t *testing.T) {
	for _, c := range []struct{ s, want string }{
		{"x", "x"},
		{"12", "12"},
		{"true", "b1"},
		{"false", "b0"},
		{"((x))", "x"},
		{"f x y", "[[f x] y]"},
		{"f (x y)", "[f [x y]]"},
		{"(f x) y", "[[f x] y]"},
		{"f true 1 (g) h", "[[[[f b1] 1] g] h]"},
		{"fun x -> fun y -> x y", "[fun x [fun y [x y]]]"},
		{"let x = 1 in x + x", "[let x 1 [+ x x]]"},
		{"let rec f x = f x in f 1", "[rec f x [f x] [f 1]]"},
		{"let x = let y = 1 in y in x", "[let x [let y 1 y] x]"},
		{"if a then b else c + 1", "[if a b [+ c 1]]"},
		{"if if a then b else c then d else e", "[if [if a b c] d e]"},
		{"1 + 2 + 3", "[+ [+ 1 2] 3]"},
		{"1 - 2 * 3 / 4 + 5", "[+ [- 1 [/ [* 2 3] 4]] 5]"},
		{"1 + 2 == 3 * 4", "[= [+ 1 2] [* 3 4]]"},
		{"f 1 < g 2", "[< [f 1] [g 2]]"},
		{"(1 == 2) == (3 < 4)", "[= [= 1 2] [< 3 4]]"},
		{"do o 1", "[do o 1]"},
		{"do o 1 2", "[[do o 1] 2]"},
		{"do o f x", "[[do o f] x]"},
		{"do o (f x) + 1", "[+ [do o [f x]] 1]"},
		{"do o handle 1 with o x k -> 2 return z -> 3 end", "[do o [handle 1 o x k 2 z 3]]"},
		{"handle f x with o v k -> k v return r -> r end", "[handle [f x] o v k [k v] r r]"},
		{"handle 1 with o v k -> 2 return r -> 3 end 4", "[[handle 1 o v k 2 r 3] 4]"},
		{"f handle 1 with o v k -> 2 return r -> 3 end", "[f [handle 1 o v k 2 r 3]]"},
		{"fun x -> x == 1 # a remark", "[fun x [= x 1]]"},
		{"(fun x -> x) 1", "[[fun x x] 1]"},
		{"(if a then b else c) * 2", "[* [if a b c] 2]"},
	} {
		p, at, e := Parse(c.s)
		if e != api.OK || at != 0 || !tree.May(p) || len(p.Ops) != 0 {
			t.Errorf("Parse(%q) = %v, %d, %d", c.s, p, at, e)
			continue
		}
		if got := dump(p.Nodes, len(p.Nodes)-1); got != c.want {
			t.Errorf("Parse(%q) = %s, want %s", c.s, got, c.want)
		}
	}
}

func TestOperations(t *testing.T) {
	s := "op a : int -> bool; op b:bool->int;op c : int -> int ; op a : bool -> bool; do a 1"
	p, at, e := Parse(s)
	want := []api.Op{
		{Name: "a", From: api.TypeInt, To: api.TypeBool},
		{Name: "b", From: api.TypeBool, To: api.TypeInt},
		{Name: "c"},
		{Name: "a", From: api.TypeBool, To: api.TypeBool},
	}
	if e != api.OK || at != 0 || !slices.Equal(p.Ops, want) || dump(p.Nodes, 1) != "[do a 1]" {
		t.Errorf("%v, %d, %d", p, at, e)
	}
}

func TestPlaces(t *testing.T) {
	for _, c := range []struct {
		s    string
		want []int
	}{
		{" x", []int{1}},
		{"( x )", []int{2}},
		{" f x y", []int{1, 3, 1, 5, 1}},
		{" (f x) y", []int{2, 4, 2, 7, 1}},
		{" ( (f) ) x", []int{4, 9, 1}},
		{"1 + 2 * 3", []int{0, 4, 8, 6, 2}},
		{"(1) == 2", []int{1, 7, 4}},
		{" fun x -> 1", []int{10, 1}},
		{"  let x = 1 in 2", []int{10, 15, 2}},
		{" let rec f x = 1 in 2", []int{15, 20, 1}},
		{" if 1 then 2 else 3", []int{4, 11, 18, 1}},
		{" do o 1 2", []int{6, 1, 8, 1}},
		{"(do o 1) 2", []int{6, 1, 9, 0}},
		{" handle 1 with o v k -> 2 return r -> 3 end", []int{8, 24, 38, 1}},
	} {
		p, _, e := Parse(c.s)
		var got []int
		for _, n := range p.Nodes {
			got = append(got, n.At)
		}
		if e != api.OK || !slices.Equal(got, c.want) {
			t.Errorf("Parse(%q): places %v, want %v; %d", c.s, got, c.want, e)
		}
	}
}

func TestWant(t *testing.T) {
	for _, c := range []struct {
		s  string
		at int
	}{
		{"", 0}, {"  ", 2}, {"# x", 3}, {"x )", 2}, {"(x", 2}, {"()", 1}, {"(x ", 3},
		{"fun", 3}, {"fun 1", 4}, {"fun fun", 4}, {"fun x x", 6}, {"fun x ->", 8}, {"fun x = x", 6},
		{"let = 1", 4}, {"let x 1", 6}, {"let x = 1", 9}, {"let x = 1 then", 10}, {"let x = 1 in", 12},
		{"let rec x = 1 in 2", 10}, {"let rec rec", 8}, {"let x y = 1 in 2", 6}, {"let x == 1", 6},
		{"if x", 4}, {"if x else", 5}, {"if x then y", 11}, {"if x then y else", 16}, {"if then", 3},
		{"1 +", 3}, {"1 + fun x -> x", 4}, {"1 == 2 == 3", 7}, {"1 < 2 < 3", 6}, {"1 == 2 < 3", 7},
		{"- 1", 0}, {"f do o 1", 2}, {"f fun x -> x", 2}, {"f let", 2}, {"1 + do o", 8},
		{"do 1", 3}, {"do o", 4}, {"do o do o 1", 5}, {"do o fun x -> x", 5}, {"do do o 1", 3},
		{"handle 1 end", 9}, {"handle with", 7}, {"handle 1 with o v -> 2", 18}, {"handle 1 with o v k 2", 20},
		{"handle 1 with o v k -> 2 end", 25}, {"handle 1 with o v k -> 2 return -> 3 end", 32},
		{"handle 1 with o v k -> 2 return r -> 3", 38}, {"handle 1 with o v k -> 2 return r -> 3 )", 39},
		{"op", 2}, {"op 1", 3}, {"op a int", 5}, {"op a : x", 7}, {"op a : int int", 11}, {"op a : int -> 1", 14},
		{"op a : int -> int 1", 18}, {"op a : int -> int;", 18}, {"op a : int -> int; op", 21}, {"1 op a", 2},
		{"(op a : int -> int; 1)", 1}, {"int", 0}, {"x : int", 2}, {"x ; y", 2}, {"return", 0}, {"end", 0},
		{"op a : -> int", 7}, {"op op : int -> int; 1", 3}, {"x = 1", 2}, {"1 2 else", 4},
	} {
		p, at, e := Parse(c.s)
		if p.Ops != nil || p.Nodes != nil || at != c.at || e != api.ErrParseWant {
			t.Errorf("Parse(%q) = %v, %d, %d, want %d", c.s, p, at, e, c.at)
		}
	}
}

func TestForm(t *testing.T) {
	for _, c := range []struct {
		s  string
		at int
	}{
		{"x \xff", 2}, {strings.Repeat("x ", 2049), 0}, {") $", 2}, {"1x", 0}, {"fun x -> 01", 9},
		{strings.Repeat("(", 100) + "é", 100},
	} {
		if p, at, e := Parse(c.s); p.Nodes != nil || at != c.at || e != api.ErrParseForm {
			t.Errorf("Parse(%.20q) = %v, %d, %d, want %d", c.s, p, at, e, c.at)
		}
	}
}

func TestDepth(t *testing.T) {
	// Each with what stands ahead of the first expr in it.
	opens := []struct{ open, close, first string }{
		{"(", ")", "("},
		{"fun x -> ", "", "fun x -> "},
		{"let x = 1 in ", "", "let x = "},
		{"let x = ", " in x", "let x = "},
		{"let rec f x = ", " in x", "let rec f x = "},
		{"let rec f x = x in ", "", "let rec f x = "},
		{"if ", " then 1 else 2", "if "},
		{"if x then ", " else 2", "if "},
		{"if x then y else ", "", "if "},
		{"handle ", " with o v k -> k return r -> r end", "handle "},
		{"handle 1 with o v k -> ", " return r -> r end", "handle "},
		{"handle 1 with o v k -> 2 return r -> ", " end", "handle "},
		{"f (", ")", "f ("},
		{"1 + (", ")", "1 + ("},
		{"do o (", ")", "do o ("},
	}
	for _, o := range opens {
		most := strings.Repeat(o.open, api.MaxDepth-1) + "x" + strings.Repeat(o.close, api.MaxDepth-1)
		if _, at, e := Parse(most); e != api.OK {
			t.Errorf("%s: %d, %d", o.open, at, e)
		}
		// Whatever comes where an expr too deep would begin, even nothing, it is too deep.
		before := strings.Repeat(o.open, api.MaxDepth-1) + o.first
		for _, next := range []string{"x", "", ")", "fun", "in"} {
			s, at := before+next, len(before)
			if _, got, e := Parse(s); got != at || e != api.ErrParseDepth {
				t.Errorf("%s: %q: %d, %d, want %d", o.open, next, got, e, at)
			}
		}
	}
	if _, at, e := Parse(strings.Repeat("(", api.MaxDepth-1) + ")"); at != api.MaxDepth-1 || e != api.ErrParseWant {
		t.Errorf("%d, %d", at, e)
	}
	if _, at, e := Parse(") " + strings.Repeat("(", 50)); at != 0 || e != api.ErrParseWant {
		t.Errorf("an error further to the right is told: %d, %d", at, e)
	}
}

func TestManyNodes(t *testing.T) {
	sum := "1" + strings.Repeat("+1", api.MaxNodes/2-1)
	for _, c := range []struct {
		s    string
		at   int
		want api.Errno
	}{
		{"fun x -> " + sum, 0, api.OK},
		{"fun x -> fun x -> " + sum, 18 + len(sum), api.ErrParseMany},
		{"(fun x -> fun x -> " + sum + ")", 19 + len(sum), api.ErrParseMany},
		{"fun x -> fun x -> " + sum + "  )", 18 + len(sum) + 2, api.ErrParseMany},
		{sum + "+1", len(sum) + 2, api.ErrParseMany},
		{sum + "+1 )", len(sum) + 3, api.ErrParseMany},
		{sum + "+ )", len(sum) + 2, api.ErrParseWant},
		{"f " + strings.Repeat("x ", api.MaxNodes/2-1), 0, api.OK},
		{"f " + strings.Repeat("x ", api.MaxNodes/2), api.MaxNodes + 2, api.ErrParseMany},
		{"do o f " + strings.Repeat("x ", api.MaxNodes/2-1), 0, api.OK},
		{"do o f " + strings.Repeat("x ", api.MaxNodes/2-1) + "+ 1", 5 + api.MaxNodes + 3, api.ErrParseMany},
	} {
		p, at, e := Parse(c.s)
		if at != c.at || e != c.want || e == api.OK && !tree.May(p) {
			t.Errorf("%.20q: %d, %d, want %d, %d", c.s, at, e, c.at, c.want)
		}
	}
}

func TestManyOperations(t *testing.T) {
	op := "op a : int -> int; "
	four := strings.Repeat(op, api.MaxOps)
	if p, at, e := Parse(four + "1"); e != api.OK || at != 0 || len(p.Ops) != api.MaxOps {
		t.Errorf("%d, %d", at, e)
	}
	for _, rest := range []string{op + "1", "op", "op op"} {
		if p, at, e := Parse(four + rest); p.Ops != nil || at != len(four) || e != api.ErrParseMany {
			t.Errorf("%q: %d, %d", rest, at, e)
		}
	}
}

// What was wanted is told by the error that is wrapped.
func TestWanted(t *testing.T) {
	p := parser{}
	p.take("then")
	p.take("else")
	var w *wanted
	if !errors.As(p.err, &w) || w.what != "then" {
		t.Errorf("%v", p.err)
	}
}

// T1: of any bytes a tree, or an error within the text.
func TestAnyBytes(t *testing.T) {
	words := strings.Fields("fun let rec in if then else handle with return end do op true false int bool x y 0 12 " +
		"-> == ( ) = + - * / < ; : ( ) x -> \xff é 1x")
	seed := uint32(1)
	for range 30000 {
		var text strings.Builder
		for range 1 + seed>>20%12 {
			seed = seed*1664525 + 1013904223
			text.WriteString(words[seed>>12%uint32(len(words))] + " ")
		}
		p, at, e := Parse(text.String())
		switch {
		case e == api.OK && (at != 0 || !tree.May(p)):
			t.Fatalf("Parse(%q) = %v, %d", text.String(), p, at)
		case e != api.OK && (at < 0 || at > text.Len() || p.Nodes != nil || p.Ops != nil):
			t.Fatalf("Parse(%q) = %v, %d, %d", text.String(), p, at, e)
		}
	}
}
