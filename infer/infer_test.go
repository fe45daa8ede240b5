package infer

import (
	"reflect"
	"strings"
	"testing"

	"trammel/api"
	"trammel/build"
	"trammel/match"
	"trammel/samples"
	"trammel/scope"
	"trammel/typ"
)

const ops = "op o : int -> int; op q : int -> bool; op b : bool -> int; "

// P13.1: the types of programs.
func TestTypes(t *testing.T) {
	for _, c := range []struct{ s, want string }{
		{"1", "int"},
		{"true", "bool"},
		{"1 + 2 * 3 - 4 / 5", "int"},
		{"1 == 2", "bool"},
		{"1 < 2", "bool"},
		{"if true then 1 else 2", "int"},
		{"fun x -> x", "(t0 -<|e0> t0)"},
		{"fun x -> 1", "(t0 -<|e0> int)"},
		{"fun x -> x + 1", "(int -<|e0> int)"},
		{"fun x -> fun y -> x", "(t0 -<|e0> (t1 -<|e1> t0))"},
		{"fun f -> fun x -> f x", "((t0 -<|e0> t1) -<|e1> (t0 -<|e0> t1))"},
		{"fun f -> fun g -> fun x -> f (g x)",
			"((t0 -<|e0> t1) -<|e1> ((t2 -<|e0> t0) -<|e2> (t2 -<|e0> t1)))"},
		{"fun f -> f (f 1)", "((int -<|e0> int) -<|e0> int)"},
		{"fun c -> fun x -> if c then x else 1", "(bool -<|e0> (int -<|e1> int))"},
		{"(fun x -> x) true", "bool"},
		{"let i = fun x -> x in i i", "(t0 -<|e0> t0)"},
		{"let i = fun x -> x in if i true then i 1 else 2", "int"},
		{"let k = fun x -> fun y -> x in k 1 (k true 2)", "int"},
		{"fun x -> let y = x in y", "(t0 -<|e0> t0)"},
		{"fun x -> let f = fun y -> x in f", "(t0 -<|e0> (t1 -<|e1> t0))"},
		{"let i = (fun x -> x) (fun x -> x) in i", "(t0 -<|e0> t0)"},
		{"let i = (fun x -> x) (fun x -> x) in i 1", "int"},
		{"let x = 1 + 2 in x", "int"},
		{"let rec f x = f x in f", "(t0 -<|e0> t1)"},
		{"let rec f x = if x == 0 then 1 else x * f (x - 1) in f", "(int -<|e0> int)"},
		{"let rec f x = x in if f true then f 1 else 2", "int"},
		{"let rec f x = fun y -> f y x in 1", "int"},
		{"fun x -> do o x", "(int -<o0|e0> int)"},
		{"fun x -> do q (do o x)", "(int -<o0,o1|e0> bool)"},
		{"fun x -> do o (do o x)", "(int -<o0|e0> int)"},
		{"fun f -> f (do o 1)", "((int -<o0|e0> t0) -<o0|e0> t0)"},
		{"fun x -> handle x with o v k -> v return r -> r end", "(int -<|e0> int)"},
		{"fun x -> handle do o x with o v k -> k v return r -> r end", "(int -<|e0> int)"},
		{"fun x -> handle do q x with q v k -> k (v == 1) return r -> r end", "(int -<|e0> bool)"},
		{"handle do b true with b v k -> if v then k 1 else k 2 return r -> r == 1 end", "bool"},
		{"fun x -> handle do o (do o x) with o v k -> do o (k v) return r -> r end", "(int -<o0|e0> int)"},
		{"fun f -> handle f 1 with o v k -> k v return r -> r end", "((int -<o0|e0> t0) -<|e0> t0)"},
		{"handle fun x -> do o x with o v k -> fun y -> y return r -> r end", "(int -<o0|e0> int)"},
		{"fun f -> handle handle f 1 with o v k -> k v return r -> r end with o v k -> k v return r -> r end",
			"((int -<o0,o0|e0> t0) -<|e0> t0)"},
		{"handle handle do o 1 with q v k -> k true return r -> r end with o v k -> 1 return r -> r end", "int"},
		{"handle do o 1 with o v k -> fun s -> k s (s + 1) return r -> fun s -> r end", "(int -<> int)"},
	} {
		got, at, e := Infer(build.Program(ops + c.s))
		text, _ := typ.Text(got)
		if text != c.want || at != 0 || e != api.OK {
			t.Errorf("%q: %q, %d, %d, want %q", c.s, text, at, e, c.want)
		}
		types, tails, _ := typ.Vars(got)
		for i, v := range append(types, tails...) {
			if v != i%max(len(types), 1) && v != i-len(types) {
				t.Errorf("%q: variables %v, %v", c.s, types, tails)
			}
		}
	}
}

// P13.1: the node that is told is the one whose row of the table it is.
func TestErrors(t *testing.T) {
	for _, c := range []struct {
		s    string
		text string
	}{
		{"1 2", "1 2"},
		{"(1) 2", "(1) 2"},
		{"true + 1", "+"},
		{"1 + true", "+"},
		{"1 == true", "=="},
		{"(1 2) + true", "1 2"},
		{"true + (1 2)", "+"},
		{"fun x -> x x", "x x"},
		{"(fun x -> x + 1) true", "(fun x"},
		{"if 1 then 2 else 3", "if"},
		{"if 1 then 1 1 else 3", "if"},
		{"if true then 1 1 else true", "1 1"},
		{"if true then 1 else false", "if"},
		{"if true then 1 else fun x -> x", "if"},
		{"let x = 1 2 in x x", "1 2"},
		{"let x = 1 in x x", "x x"},
		{"fun f -> if f true then f 1 else 2", "f 1"},
		{"let i = (fun x -> x) (fun x -> x) in if i true then i 1 else 2", "i 1"},
		{"let rec f x = f in f", "let rec"},
		{"let rec f x = if f true then f 1 else 2 in f", "f 1"},
		{"let rec f x = f f in 1", "f f"},
		{"do o 1", "do o"},
		{"fun x -> do o true", "do o"},
		{"do o true", "do o"},
		{"1 + do o 1", "do o"},
		{"(fun x -> do o x) 1", "(fun x"},
		{"handle do q 1 with o v k -> 1 return r -> true end", "do q"},
		{"handle (do o 1) + (do o true) with o v k -> 1 return r -> r end", "do o true"},
		{"handle do o 1 with o v k -> k true return r -> r end", "k true"},
		{"handle do o 1 with o v k -> true return r -> r end", "handle"},
		{"handle do o 1 with o v k -> v return r -> true end", "handle"},
		{"handle 1 with o v k -> k return r -> fun x -> r end", "handle"},
		{"handle do o 1 with o v k -> k v return r -> do o 1 end", "do o 1 end"},
		{"handle do o 1 with o v k -> do o 1 return r -> r end", "do o 1 return"},
		{"handle do o 1 with q v k -> k true return r -> r end", "do o"},
	} {
		s := ops + c.s
		got, at, e := Infer(build.Program(s))
		want := len(ops) + strings.LastIndex(c.s, c.text)
		if got.Nodes != nil || at != want || e != api.ErrInferType {
			t.Errorf("%q: %v, %d, %d, want %d", c.s, got, at-len(ops), e, want-len(ops))
		}
	}
}

func TestForm(t *testing.T) {
	for _, p := range []api.Program{
		{},
		{Nodes: []api.Node{{Kind: api.NodeVar, At: 7}}},
		{Nodes: []api.Node{{Kind: api.NodeVar, Name: "x", At: 7}}},
		{Nodes: []api.Node{{Kind: 11}}},
		{Ops: make([]api.Op, 2), Nodes: []api.Node{{Kind: api.NodeInt, At: 7}}},
	} {
		if got, at, e := Infer(p); got.Nodes != nil || at != 0 || e != api.ErrInferForm {
			t.Errorf("%v: %v, %d, %d", p, got, at, e)
		}
		if got, at, e := Marks(p); got != nil || at != 0 || e != api.ErrInferForm {
			t.Errorf("%v: %v, %d, %d", p, got, at, e)
		}
	}
}

// row is a program of nodes that are made one behind the other.
type rowOf struct{ nodes []api.Node }

func (r *rowOf) put(n api.Node) int {
	n.At = len(r.nodes)
	r.nodes = append(r.nodes, n)
	return len(r.nodes) - 1
}

func (r *rowOf) variable(num int) int { return r.put(api.Node{Kind: api.NodeVar, Num: num}) }

func (r *rowOf) pair(kind, a, b int) int { return r.put(api.Node{Kind: kind, A: a, B: b}) }

// P13.1, limits: types that double.
func TestTypesTooGreat(t *testing.T) {
	// let d = fun x -> fun f -> f x x in fun x -> d (d (.. x)): each d more than doubles a type.
	text := func(n int) string {
		return "let d = fun x -> fun f -> f x x in fun x -> " + strings.Repeat("d (", n) + "x" + strings.Repeat(")", n)
	}
	if got, at, e := Infer(build.Program(text(4))); e != api.OK || len(got.Nodes) > api.MaxTypes {
		t.Errorf("%d nodes, %d, %d", len(got.Nodes), at, e)
	}
	for _, n := range []int{7, 30} {
		s := text(n)
		got, at, e := Infer(build.Program(s))
		if got.Nodes != nil || e != api.ErrInferMany || s[at] != 'd' {
			t.Errorf("%d: %v, %d, %d", n, got, at, e)
		}
		if marks, again, e := Marks(build.Program(s)); marks != nil || again != at || e != api.ErrInferMany {
			t.Errorf("%d: %d, %d", n, again, e)
		}
	}
	// A function of 127 operands has 255 nodes, one more is too many: that is the outermost.
	var r rowOf
	last := r.put(api.Node{Kind: api.NodeInt})
	for range 127 {
		last = r.put(api.Node{Kind: api.NodeFun, A: last})
	}
	if got, at, e := Infer(api.Program{Nodes: r.nodes}); e != api.OK || len(got.Nodes) != 255 {
		t.Errorf("%d nodes, %d, %d", len(got.Nodes), at, e)
	}
	last = r.put(api.Node{Kind: api.NodeFun, A: last})
	if got, at, e := Infer(api.Program{Nodes: r.nodes}); got.Nodes != nil || at != last || e != api.ErrInferMany {
		t.Errorf("%v, %d, %d", got, at, e)
	}
}

// P13.1, limits: variables. Each use of a function of 127 operands takes 127 variables of each sort,
// each let a row variable more: behind 31 uses all 4,096 row variables are made.
func TestVariablesTooMany(t *testing.T) {
	build := func(uses int) []api.Node {
		var r rowOf
		f := r.put(api.Node{Kind: api.NodeInt})
		for range 127 {
			f = r.put(api.Node{Kind: api.NodeFun, A: f})
		}
		lets := []int{f}
		for i := range uses {
			lets = append(lets, r.variable(i))
		}
		last := r.put(api.Node{Kind: api.NodeInt})
		for i := len(lets) - 1; i >= 0; i-- {
			last = r.pair(api.NodeLet, lets[i], last)
		}
		return r.nodes
	}
	good := inRow(build(31))
	if got, at, e := Infer(api.Program{Nodes: good}); e != api.OK || len(got.Nodes) != 1 {
		t.Errorf("%v, %d, %d", got, at, e)
	}
	bad := inRow(build(32))
	if got, at, e := Infer(api.Program{Nodes: bad}); got.Nodes != nil || e != api.ErrInferMany || bad[at].Kind != api.NodeLet || bad[at].B != at-1 || bad[at-1].Kind != api.NodeInt {
		t.Errorf("%v, %d, %d", got, at, e)
	}
}

// inRow puts nodes in the row that a tree has.
func inRow(ns []api.Node) []api.Node {
	var made []api.Node
	var put func(at int) int
	put = func(at int) int {
		n := ns[at]
		switch n.Kind {
		case api.NodeFun:
			n.A = put(n.A)
		case api.NodeLet:
			n.A = put(n.A)
			n.B = put(n.B)
		}
		n.At = len(made)
		made = append(made, n)
		return n.At
	}
	put(len(ns) - 1)
	return made
}

// P13.1, limits: handlers of one operation in one another.
func TestCountsTooGreat(t *testing.T) {
	build := func(n int) api.Program {
		var r rowOf
		last := r.put(api.Node{Kind: api.NodeInt})
		for range n {
			b := r.put(api.Node{Kind: api.NodeInt})
			c := r.put(api.Node{Kind: api.NodeInt})
			last = r.put(api.Node{Kind: api.NodeHandle, A: last, B: b, C: c})
		}
		return api.Program{Ops: []api.Op{{Name: "o"}}, Nodes: r.nodes}
	}
	if _, at, e := Infer(build(api.MaxCount)); e != api.OK {
		t.Errorf("%d, %d", at, e)
	}
	// The innermost handler is the one that is too much.
	if got, at, e := Infer(build(api.MaxCount + 1)); got.Nodes != nil || at != 3 || e != api.ErrInferMany {
		t.Errorf("%v, %d, %d", got, at, e)
	}
}

// P13.1, limits: what gets too great behind the last look at it is told at last, of the first node.
func TestTooGreatAtLast(t *testing.T) {
	const op = "op o : int -> int; "
	great := func(operands int) string { return strings.Repeat("fun a -> ", operands) + "0" }
	seven := "fun x -> let h = "
	for _, name := range strings.Fields("b c d e f g") {
		seven += "fun " + name + " -> "
	}
	for _, name := range strings.Fields("x b c d e f") {
		seven += "if true then " + name + " else "
	}
	seven += "g in if true then x else ("
	handlers := func(many int) string {
		return op + strings.Repeat("handle ", many) + "(fun u -> handle 7 with o v k -> 2 return r -> 3 end) 0" +
			strings.Repeat(" with o v k -> 1 return r -> r end", many)
	}
	for _, c := range []struct {
		s    string
		text string
	}{
		// A type: that of h is seven times what x is to be.
		{seven + great(17) + ")", ""},
		{seven + great(18) + ")", "fun b"},
		// A place's row: that of a handler in a function that is called in as many others as may be.
		{handlers(31), ""},
		{handlers(32), "7 with"},
	} {
		p := build.Program(c.s)
		want, wantError := 0, api.OK
		if c.text != "" {
			want, wantError = strings.Index(c.s, c.text), api.ErrInferMany
		}
		if got, at, e := Infer(p); at != want || e != wantError || (e == api.OK) != (got.Nodes != nil) {
			t.Errorf("%q: %d, %d, want %d, %d", c.s, at, e, want, wantError)
		}
		hold(t, p)
	}
}

// P13.2: what has a type by how it is made has one, of which that is an instance.
func TestTyped(t *testing.T) {
	random := samples.Random(14)
	nodes := 0
	for range 3000 {
		p, has := samples.Typed(&random, 1+random.Below(90))
		p, _, e := scope.Resolve(p)
		if len(p.Nodes) > api.MaxNodes {
			continue
		}
		if e != api.OK {
			t.Fatal(e)
		}
		got, at, e := Infer(p)
		if e != api.OK || at != 0 {
			t.Fatalf("%v, which is %v: %d at %d", p, has, e, at)
		}
		if ok, e := match.Instance(got, has); !ok || e != api.OK {
			t.Fatalf("%v is %v, of which %v is no instance", p, got, has)
		}
		nodes += len(p.Nodes)
	}
	if nodes < 30000 {
		t.Errorf("only %d nodes", nodes)
	}
}

// Whatever program is handed in, the two calls tell the same of it, twice.
func TestScoped(t *testing.T) {
	random := samples.Random(15)
	typed := 0
	for range 5000 {
		p, _, e := scope.Resolve(samples.Scoped(&random, 1+random.Below(25)))
		if e != api.OK {
			t.Fatal(e)
		}
		got, at, e := Infer(p)
		again, atAgain, eAgain := Infer(p)
		if !reflect.DeepEqual(got, again) || at != atAgain || e != eAgain {
			t.Fatalf("%v: %v, %d, %d and %v, %d, %d", p, got, at, e, again, atAgain, eAgain)
		}
		marks, atMarks, eMarks := Marks(p)
		if at != atMarks || e != eMarks || e == api.OK && len(marks) != len(p.Nodes) {
			t.Fatalf("%v: %d, %d and %d, %d", p, at, e, atMarks, eMarks)
		}
		if e == api.OK {
			typed++
			if equal, _ := match.Equal(marks[len(marks)-1].Type, got); !equal {
				t.Fatalf("%v: %v and %v", p, marks, got)
			}
		}
	}
	if typed < 300 {
		t.Errorf("only %d have a type", typed)
	}
}
