package show

import (
	"slices"
	"strings"
	"testing"

	"trammel/api"
	"trammel/parse"
	"trammel/samples"
	"trammel/tree"
)

// P5.1: texts that are printed as they are.
func TestPrintAsItIs(t *testing.T) {
	for _, s := range []string{
		"x",
		"0",
		"1073741823",
		"true",
		"false",
		"fun x -> fun y -> x",
		"f x",
		"(f x) y",
		"f (x y)",
		"(fun x -> x) (fun y -> y)",
		"let x = let y = 1 in 2 in fun z -> x",
		"let rec f x = f x in f 1",
		"if a == b then fun x -> x else c + 1",
		"(if a then b else c) (if a then b else c)",
		"(1 + 2) + 3",
		"1 + (2 + 3)",
		"(1 - 2) * (3 / 4)",
		"(1 == 2) < (3 == 4)",
		"(f x) + (g y)",
		"f (1 + 2)",
		"do o 1",
		"do o (do o x)",
		"(do o x) y",
		"(do o true) + 1",
		"do o (fun x -> x)",
		"handle f x with o v k -> k v return r -> r + 1 end",
		"handle 1 with o v k -> 2 return r -> 3 end handle 1 with o v k -> 2 return r -> 3 end",
		"do o handle 1 with o v k -> 2 return r -> 3 end",
		"1 + handle 1 with o v k -> 2 return r -> 3 end",
		"handle handle 1 with o v k -> 2 return r -> 3 end with o v k -> fun x -> x return r -> if a then b else c end",
		"(let x = 1 in x) * (let rec f x = 1 in 2)",
		"op a : int -> bool; op b : bool -> int; op a : int -> int; do a 1",
	} {
		p, _, e := parse.Parse(s)
		if e != api.OK {
			t.Fatalf("%q: %d", s, e)
		}
		if got, e := Print(p); got != s || e != api.OK {
			t.Errorf("Print of %q = %q, %d", s, got, e)
		}
	}
}

// P5.1: blanks, remarks and brackets that are not needed go, those that are left out come.
func TestPrintAnew(t *testing.T) {
	for _, c := range []struct{ s, want string }{
		{" ((x))  # it", "x"},
		{"f x y z", "((f x) y) z"},
		{"f (1) (handle 1 with o v k -> (2) return r -> (3) end)", "(f 1) handle 1 with o v k -> 2 return r -> 3 end"},
		{"1+2*3-4", "(1 + (2 * 3)) - 4"},
		{"fun x->(x==1)", "fun x -> x == 1"},
		{"do o 1 2", "(do o 1) 2"},
		{"op a:int->int;1", "op a : int -> int; 1"},
		{"if(a)then(b)else(c)", "if a then b else c"},
	} {
		p, _, e := parse.Parse(c.s)
		if e != api.OK {
			t.Fatalf("%q: %d", c.s, e)
		}
		if got, e := Print(p); got != c.want || e != api.OK {
			t.Errorf("Print of %q = %q, %d, want %q", c.s, got, e, c.want)
		}
	}
}

func variable(name string) api.Node { return api.Node{Kind: api.NodeVar, Name: name} }

// chain is an operand with so many nodes over it, each the first operand of the next.
func chain(many int) api.Program {
	ns := []api.Node{variable("x")}
	for range many {
		left := len(ns) - 1
		ns = append(ns, variable("y"), api.Node{Kind: api.NodeApp, A: left, B: left + 1})
	}
	return api.Program{Nodes: ns}
}

// balanced puts applications of variables of these names behind a row of nodes.
func balanced(ns []api.Node, names []string) []api.Node {
	if len(names) == 1 {
		return append(ns, variable(names[0]))
	}
	ns = balanced(ns, names[:len(names)/2])
	left := len(ns) - 1
	ns = balanced(ns, names[len(names)/2:])
	return append(ns, api.Node{Kind: api.NodeApp, A: left, B: len(ns) - 1})
}

func TestRefusals(t *testing.T) {
	long := strings.Repeat("a", api.MaxName)
	wide := balanced(nil, slices.Repeat([]string{long}, api.MaxNodes/2))
	for i, p := range []api.Program{
		{},
		{Nodes: []api.Node{{Kind: api.NodeVar}}},
		{Nodes: []api.Node{{Kind: api.NodeInt, Num: -1}}},
		{Nodes: []api.Node{variable("end")}},
		{Nodes: []api.Node{variable("x"), variable("y")}},
		{Ops: []api.Op{{Name: "X"}}, Nodes: []api.Node{variable("x")}},
		{Ops: make([]api.Op, api.MaxOps+1), Nodes: []api.Node{variable("x")}},
		{Nodes: wide},
		chain(api.MaxDepth + 1),
		chain(255),
	} {
		if s, e := Print(p); s != "" || e != api.ErrShowForm {
			t.Errorf("%d: %q, %d", i, s, e)
		}
	}
	if s, e := Print(chain(api.MaxDepth)); e != api.OK || !strings.HasPrefix(s, strings.Repeat("(", api.MaxDepth-1)+"x y)") {
		t.Errorf("%q, %d", s, e)
	}
}

// P5.1: a text of MaxText bytes is told, one of a byte more is not.
func TestGreatestText(t *testing.T) {
	names := slices.Repeat([]string{strings.Repeat("a", api.MaxName)}, 216)
	names[0] = names[0][3:]
	s, e := Print(api.Program{Nodes: balanced(nil, names)})
	if len(s) != api.MaxText || e != api.OK {
		t.Errorf("%d bytes, %d", len(s), e)
	}
	names[1] = names[1][1:]
	names[0] = "aa" + names[0]
	if s, e := Print(api.Program{Nodes: balanced(nil, names)}); s != "" || e != api.ErrShowForm {
		t.Errorf("%d bytes, %d", len(s), e)
	}
}

// P5.2: whatever is printed is read again as the same tree.
func TestReadAgain(t *testing.T) {
	random := samples.Random(5)
	printed := 0
	for range 4000 {
		p := samples.Scoped(&random, 1+random.Below(200))
		s, e := Print(p)
		if !tree.May(p) || e != api.OK && (e != api.ErrShowForm || s != "") {
			t.Fatalf("%v: %q, %d", p, s, e)
		}
		if e != api.OK {
			continue
		}
		printed++
		again, at, e := parse.Parse(s)
		if e != api.OK || !tree.Same(p.Nodes, again.Nodes) || !slices.Equal(p.Ops, again.Ops) {
			t.Fatalf("%q: %v at %d, %d, want %v", s, again, at, e, p)
		}
		if twice, e := Print(again); twice != s || e != api.OK {
			t.Fatalf("%q is printed as %q, %d", s, twice, e)
		}
	}
	if printed < 1000 {
		t.Errorf("only %d were printed", printed)
	}
}
