package elab

import (
	"fmt"
	"reflect"
	"slices"
	"strings"
	"testing"

	"trammel/api"
	"trammel/build"
	"trammel/infer"
	"trammel/match"
	"trammel/samples"
	"trammel/scope"
	"trammel/typ"
)

// told writes a type with the numbers that its variables have.
func told(ns []api.TyNode, at int) string {
	n := ns[at]
	switch n.Kind {
	case api.TypeInt:
		return "int"
	case api.TypeBool:
		return "bool"
	case api.TypeVar:
		return fmt.Sprint("t", n.Var)
	}
	return "(" + told(ns, n.A) + " " + toldRow(n.Row) + " " + told(ns, n.B) + ")"
}

func toldRow(r api.Row) string {
	s := ""
	for op, count := range r.Counts {
		s += strings.Repeat(fmt.Sprint("o", op), count)
	}
	if r.Tail >= 0 {
		s += fmt.Sprint("e", r.Tail)
	}
	return "<" + s + ">"
}

func toldMark(m api.Mark) string {
	s := told(m.Type.Nodes, len(m.Type.Nodes)-1) + " " + toldRow(m.Row)
	if len(m.Vars)+len(m.Rows) > 0 {
		s += fmt.Sprint(" any ", m.Vars, m.Rows)
	}
	for _, t := range m.Types {
		s += " takes " + told(t.Nodes, len(t.Nodes)-1)
	}
	for _, r := range m.Takes {
		s += " takes " + toldRow(r)
	}
	return s
}

// P14.1: the marks, node by node.
func TestMarks(t *testing.T) {
	for _, c := range []struct {
		s    string
		want []string
	}{
		{"1", []string{"int <>"}},
		{"fun x -> x", []string{"int <>", "(int <> int) <>"}},
		{"let i = fun x -> x in i i", []string{
			"t0 <e0>",
			"(t0 <e0> t0) <>",
			"((int <> int) <> (int <> int)) <> takes (int <> int) takes <>",
			"(int <> int) <> takes int takes <>",
			"(int <> int) <>",
			"(int <> int) <> any [0] [0]",
		}},
		{"let x = (fun x -> x) (fun x -> x) in x", []string{
			"(int <> int) <>",
			"((int <> int) <> (int <> int)) <>",
			"int <>",
			"(int <> int) <>",
			"(int <> int) <>",
			"(int <> int) <>",
			"(int <> int) <>",
		}},
		{"let k = fun x -> fun y -> x in k 1 (k true)", []string{
			"t0 <e0>",
			"(t1 <e0> t0) <e1>",
			"(t0 <e1> (t1 <e0> t0)) <>",
			"(int <> ((int <> bool) <> int)) <> takes int takes (int <> bool) takes <> takes <>",
			"int <>",
			"((int <> bool) <> int) <>",
			"(bool <> (int <> bool)) <> takes bool takes int takes <> takes <>",
			"bool <>",
			"(int <> bool) <>",
			"int <>",
			"int <> any [0 1] [1 0]",
		}},
		{"op o : int -> int; let rec f x = do o x in handle f 1 with o v k -> k v return r -> r end", []string{
			"int <o0e0>",
			"int <o0e0>",
			"(int <o0> int) <o0> takes <>",
			"int <o0>",
			"int <o0>",
			"(int <> int) <>",
			"int <>",
			"int <>",
			"int <>",
			"int <>",
			"int <> any [] [0] takes int",
		}},
		{"let rec f x = f x in let g = f in 1", []string{
			"(t0 <e0> t1) <e0>",
			"t0 <e0>",
			"t1 <e0>",
			"(t2 <e1> t3) <> takes t2 takes t3 takes <e1>",
			"int <>",
			"int <> any [2 3] [1]",
			"int <> any [0 1] [0] takes t0",
		}},
		{"fun x -> let f = fun y -> x in f", []string{
			"int <e0>",
			"(t0 <e0> int) <>",
			"(int <> int) <> takes int takes <>",
			"(int <> int) <> any [0] [0]",
			"(int <> (int <> int)) <>",
		}},
	} {
		p := build.Program(c.s)
		core, at, e := Core(p)
		var got []string
		for _, m := range core.Marks {
			got = append(got, toldMark(m))
		}
		if e != api.OK || at != 0 || !slices.Equal(got, c.want) {
			t.Errorf("%q: %d at %d:\n%s\nwant\n%s", c.s, e, at, strings.Join(got, "\n"), strings.Join(c.want, "\n"))
		}
		if !reflect.DeepEqual(core.Nodes, p.Nodes) || !slices.Equal(core.Ops, p.Ops) {
			t.Errorf("%q: without marks it is %v", c.s, core)
		}
	}
}

func TestErrors(t *testing.T) {
	for _, c := range []struct {
		p    api.Program
		at   int
		want api.Errno
	}{
		{api.Program{}, 0, api.ErrElabForm},
		{api.Program{Nodes: []api.Node{{Kind: api.NodeVar, At: 3}}}, 0, api.ErrElabForm},
		{api.Program{Nodes: []api.Node{{Kind: api.NodeVar, Name: "x"}}}, 0, api.ErrElabForm},
		{build.Program("1 + (2 3)"), 5, api.ErrInferType},
		{build.Program("op o : int -> int; (do o 1) + 2"), 20, api.ErrInferType},
		{build.Program("let d = fun x -> fun f -> f x x in fun x -> " + strings.Repeat("d (", 20) + "x" + strings.Repeat(")", 20)), 0,
			api.ErrInferMany},
	} {
		core, at, e := Core(c.p)
		if c.want == api.ErrInferMany {
			_, c.at, _ = infer.Infer(c.p)
		}
		if !reflect.DeepEqual(core, api.Core{}) || at != c.at || e != c.want {
			t.Errorf("%v: %v, %d, %d, want %d, %d", c.p, core, at, e, c.at, c.want)
		}
	}
}

// unknown tells the variables of a mark that no node is closed over.
func unknown(m api.Mark, types, tails map[int]bool) []int {
	var all []int
	look := func(t api.Type) {
		ts, rs, _ := typ.Vars(t)
		for _, v := range ts {
			if !types[v] {
				all = append(all, v)
			}
		}
		for _, v := range rs {
			if !tails[v] {
				all = append(all, v)
			}
		}
	}
	look(m.Type)
	for _, t := range m.Types {
		look(t)
	}
	for _, r := range append(slices.Clone(m.Takes), m.Row) {
		if r.Tail >= 0 && !tails[r.Tail] {
			all = append(all, r.Tail)
		}
	}
	return all
}

// No variable is left that nobody is closed over; numbers come by first appearance; no memory is shared.
func TestVariables(t *testing.T) {
	random := samples.Random(16)
	closedOver := 0
	for range 1500 {
		p, has := samples.Typed(&random, 1+random.Below(60))
		p, _, _ = scope.Resolve(p)
		was := slices.Clone(p.Nodes)
		core, at, e := Core(p)
		if len(p.Nodes) > api.MaxNodes {
			continue
		}
		if e != api.OK || at != 0 || len(core.Marks) != len(p.Nodes) {
			t.Fatalf("%v: %d at %d", p, e, at)
		}
		types, tails := make(map[int]bool), make(map[int]bool)
		for _, m := range core.Marks {
			for _, v := range m.Vars {
				if types[v] {
					t.Fatalf("%v: %d twice", p, v)
				}
				types[v] = true
			}
			for _, v := range m.Rows {
				if tails[v] {
					t.Fatalf("%v: row variable %d twice", p, v)
				}
				tails[v] = true
			}
		}
		for v := range len(types) {
			if !types[v] {
				t.Fatalf("%v: no %d", p, v)
			}
		}
		for v := range len(tails) {
			if !tails[v] {
				t.Fatalf("%v: no row variable %d", p, v)
			}
		}
		closedOver += len(types)
		for i, m := range core.Marks {
			if left := unknown(m, types, tails); left != nil {
				t.Fatalf("%v: node %d has %v", p, i, left)
			}
		}
		root := core.Marks[len(core.Marks)-1]
		general, _, _ := infer.Infer(p)
		if ok, _ := match.Instance(general, root.Type); !ok || root.Row != (api.Row{Tail: -1}) {
			t.Fatalf("%v: %v of %v, also %v", p, root, general, has)
		}
		core.Nodes[0].At++
		if !slices.Equal(p.Nodes, was) {
			t.Fatal("what is answered shares memory with what is handed in")
		}
	}
	if closedOver < 500 {
		t.Errorf("only %d variables", closedOver)
	}
}
