package cps

import (
	"fmt"
	"reflect"
	"slices"
	"testing"

	"trammel/api"
	"trammel/build"
	"trammel/samples"
	"trammel/scope"
	"trammel/target"
)

// told writes a term with all that is in its nodes; names are n and their numbers.
func told(ts []api.Target, at int) string {
	n := ts[at]
	a := func() string { return told(ts, n.A) }
	b := func() string { return told(ts, n.B) }
	c := func() string { return told(ts, n.C) }
	switch n.Kind {
	case api.TgtVar:
		return fmt.Sprint("n", n.Num)
	case api.TgtInt:
		return fmt.Sprint(n.Num)
	case api.TgtBool:
		return fmt.Sprint(n.Num == 1)
	case api.TgtFun:
		return fmt.Sprintf("fun n%d %s", n.X, brackets(a()))
	case api.TgtFix:
		return fmt.Sprintf("fix n%d n%d %s", n.X, n.Y, brackets(a()))
	case api.TgtApp:
		return "app " + brackets(a()) + " " + brackets(b())
	case api.TgtLet:
		return fmt.Sprintf("let n%d %s %s", n.X, brackets(a()), brackets(b()))
	case api.TgtIf:
		return "if " + brackets(a()) + " " + brackets(b()) + " " + brackets(c())
	case api.TgtPrim:
		return fmt.Sprintf("prim%d %s %s", n.Num, brackets(a()), brackets(b()))
	case api.TgtRet:
		return "ret " + brackets(a())
	case api.TgtOp:
		return fmt.Sprintf("op%d %s %s", n.Num, brackets(a()), brackets(b()))
	case api.TgtBind:
		return fmt.Sprintf("bind %s n%d %s", brackets(a()), n.X, brackets(b()))
	}
	return fmt.Sprintf("case %s n%d %s; %d n%d n%d %s; n%d", brackets(a()), n.X, brackets(b()), n.Num, n.Y, n.Z, brackets(c()), n.W)
}

func brackets(s string) string {
	for _, sign := range s {
		if sign == ' ' {
			return "(" + s + ")"
		}
	}
	return s
}

const ops = "op o : int -> int; op q : int -> bool; "

// P20.1: D and C of each kind of node, and the row in which names are made.
func TestTranslate(t *testing.T) {
	for _, c := range []struct{ s, want string }{
		{"1", "ret 1"},
		{"true", "ret true"},
		{"fun x -> x", "ret (fun n0 (ret n0))"},
		{"fun x -> fun y -> x + y", "ret (fun n0 (ret (fun n1 (ret (prim0 n0 n1)))))"},
		{"1 - 2", "ret (prim1 1 2)"},
		{"let x = 1 in x", "ret (let n0 1 n0)"},
		{"let x = fun y -> y in fun z -> x", "ret (let n1 (fun n0 (ret n0)) (fun n2 (ret n1)))"},
		{"let rec f x = f x in f", "ret (let n0 (fix n0 n1 (bind (ret n0) n2 (bind (ret n1) n3 (app n2 n3)))) n0)"},
		{"if true then 1 else 2", "ret (if true 1 2)"},
		{"if 1 < 2 then fun x -> x else fun y -> y", "ret (if (prim5 1 2) (fun n0 (ret n0)) (fun n1 (ret n1)))"},
		{"1 2", "bind (ret 1) n0 (bind (ret 2) n1 (app n0 n1))"},
		{"(fun x -> x) (fun y -> y)",
			"bind (ret (fun n2 (ret n2))) n0 (bind (ret (fun n3 (ret n3))) n1 (app n0 n1))"},
		{"1 + 2 3", "bind (ret 1) n0 (bind (bind (ret 2) n2 (bind (ret 3) n3 (app n2 n3))) n1 (ret (prim0 n0 n1)))"},
		{"let x = 1 in x x", "let n0 1 (bind (ret n0) n1 (bind (ret n0) n2 (app n1 n2)))"},
		{"let x = 1 2 in x", "bind (bind (ret 1) n0 (bind (ret 2) n1 (app n0 n1))) n2 (ret n2)"},
		{"let x = fun y -> y in x x", "let n1 (fun n0 (ret n0)) (bind (ret n1) n2 (bind (ret n1) n3 (app n2 n3)))"},
		{"let rec f x = x in f 1", "let n0 (fix n0 n1 (ret n1)) (bind (ret n0) n2 (bind (ret 1) n3 (app n2 n3)))"},
		{"if true then 1 2 else 3", "if true (bind (ret 1) n0 (bind (ret 2) n1 (app n0 n1))) (ret 3)"},
		{"if 1 2 then 3 else 4", "bind (bind (ret 1) n1 (bind (ret 2) n2 (app n1 n2))) n0 (if n0 (ret 3) (ret 4))"},
		{"do q 1", "bind (ret 1) n0 (op1 n0 (fun n1 (ret n1)))"},
		{"do o (do q 1)",
			"bind (bind (ret 1) n2 (op1 n2 (fun n3 (ret n3)))) n0 (op0 n0 (fun n1 (ret n1)))"},
		{"handle 1 with q v k -> v return r -> r end",
			"app (fix n0 n1 (case n1 n2 (ret n2); 1 n3 n5 (let n4 (fun n6 (app n0 (app n5 n6))) (ret n3)); n0)) (ret 1)"},
		{"handle do o 1 with o v k -> k v return r -> fun x -> r end",
			"app (fix n0 n1 (case n1 n2 (ret (fun n7 (ret n2))); 0 n3 n5 " +
				"(let n4 (fun n6 (app n0 (app n5 n6))) (bind (ret n4) n8 (bind (ret n3) n9 (app n8 n9)))); n0)) " +
				"(bind (ret 1) n10 (op0 n10 (fun n11 (ret n11))))"},
		{"fun a -> handle a with o v k -> a return r -> a end",
			"ret (fun n0 (app (fix n1 n2 (case n2 n3 (ret n0); 0 n4 n6 (let n5 (fun n7 (app n1 (app n6 n7))) (ret n0)); n1)) (ret n0)))"},
	} {
		got, e := Translate(build.Program(ops + c.s))
		if e != api.OK || !target.May(got) || told(got, len(got)-1) != c.want {
			t.Errorf("%q: %s, %d, want %s", c.s, told(got, len(got)-1), e, c.want)
		}
	}
}

func TestForm(t *testing.T) {
	for _, p := range []api.Program{
		{},
		{Nodes: []api.Node{{Kind: api.NodeVar}}},
		{Nodes: []api.Node{{Kind: api.NodeVar, Name: "x"}}},
		{Nodes: []api.Node{{Kind: api.NodeInt}, {Kind: api.NodeDo}}},
		{Ops: make([]api.Op, 1), Nodes: []api.Node{{Kind: api.NodeInt}}},
	} {
		if got, e := Translate(p); got != nil || e != api.ErrCpsForm {
			t.Errorf("%v: %v, %d", p, got, e)
		}
	}
}

// row is a program of MaxNodes nodes, over the last of which each makes the next.
func row(next func(last, more int) []api.Node) api.Program {
	nodes := []api.Node{{Kind: api.NodeInt}}
	for {
		more := next(len(nodes)-1, len(nodes))
		if len(nodes)+len(more) > api.MaxNodes {
			return api.Program{Ops: []api.Op{{Name: "o"}}, Nodes: nodes}
		}
		nodes = append(nodes, more...)
	}
}

// The greatest programs are far from the limit of terms.
func TestGreatestPrograms(t *testing.T) {
	for i, p := range []api.Program{
		row(func(last, _ int) []api.Node { return []api.Node{{Kind: api.NodeDo, A: last}} }),
		row(func(last, more int) []api.Node {
			return []api.Node{{Kind: api.NodeInt}, {Kind: api.NodeApp, A: last, B: more}}
		}),
		row(func(last, more int) []api.Node {
			return []api.Node{{Kind: api.NodeInt}, {Kind: api.NodeInt}, {Kind: api.NodeHandle, A: last, B: more, C: more + 1}}
		}),
		row(func(last, _ int) []api.Node { return []api.Node{{Kind: api.NodeFun, A: last}} }),
	} {
		if got, e := Translate(p); e != api.OK || !target.May(got) || len(got) > api.MaxTargets/2 {
			t.Errorf("%d: %d nodes, %d", i, len(got), e)
		}
	}
}

// bindings adds the names that a term binds, and checks that those it uses are bound there.
func bindings(t *testing.T, ts []api.Target, at int, bound []int, all map[int]int) {
	n := ts[at]
	with := func(names ...int) []int {
		for _, name := range names {
			all[name]++
		}
		return slices.Concat(bound, names)
	}
	switch n.Kind {
	case api.TgtVar:
		if !slices.Contains(bound, n.Num) {
			t.Fatalf("%s: n%d is not bound", told(ts, len(ts)-1), n.Num)
		}
	case api.TgtFun:
		bindings(t, ts, n.A, with(n.X), all)
	case api.TgtFix:
		bindings(t, ts, n.A, with(n.X, n.Y), all)
	case api.TgtRet:
		bindings(t, ts, n.A, bound, all)
	case api.TgtLet, api.TgtBind:
		bindings(t, ts, n.A, bound, all)
		bindings(t, ts, n.B, with(n.X), all)
	case api.TgtApp, api.TgtPrim, api.TgtOp:
		bindings(t, ts, n.A, bound, all)
		bindings(t, ts, n.B, bound, all)
	case api.TgtIf:
		bindings(t, ts, n.A, bound, all)
		bindings(t, ts, n.B, bound, all)
		bindings(t, ts, n.C, bound, all)
	case api.TgtCase:
		if !slices.Contains(bound, n.W) {
			t.Fatalf("%s: n%d is not bound", told(ts, len(ts)-1), n.W)
		}
		bindings(t, ts, n.A, bound, all)
		bindings(t, ts, n.B, with(n.X), all)
		bindings(t, ts, n.C, with(n.Y, n.Z), all)
	}
}

// Each name is bound once, but for a NodeRec's own, which its TgtFix and its TgtLet bind.
func TestNames(t *testing.T) {
	random := samples.Random(23)
	for range 1500 {
		p, _, _ := scope.Resolve(samples.Scoped(&random, 1+random.Below(90)))
		was := slices.Clone(p.Nodes)
		ts, e := Translate(p)
		if e != api.OK || !target.May(ts) || !reflect.DeepEqual(p.Nodes, was) {
			t.Fatalf("%v: %v, %d", p, ts, e)
		}
		all := make(map[int]int)
		bindings(t, ts, len(ts)-1, nil, all)
		names, _ := target.Names(ts)
		if names != len(all) {
			t.Fatalf("%s: %d names, %d are bound", told(ts, len(ts)-1), names, len(all))
		}
		twice := make(map[int]bool)
		for _, n := range ts {
			if n.Kind == api.TgtLet && ts[n.A].Kind == api.TgtFix && ts[n.A].X == n.X {
				twice[n.X] = true
			}
		}
		for name, times := range all {
			if times != 1 && (times != 2 || !twice[name]) {
				t.Fatalf("%s: n%d is bound %d times", told(ts, len(ts)-1), name, times)
			}
		}
	}
}
