package tidy

import (
	"reflect"
	"slices"
	"testing"

	"trammel/agree"
	"trammel/api"
	"trammel/build"
	"trammel/hsem"
	"trammel/infer"
	"trammel/match"
	"trammel/samples"
	"trammel/scope"
	"trammel/tree"
)

const ops = "op o : int -> int; "

// P25.1: what a text becomes, but for places.
func TestTidy(t *testing.T) {
	for _, c := range []struct{ s, want string }{
		{"1", "1"},
		{"1 + 2", "3"},
		{"7 - 3", "4"},
		{"6 * 7", "42"},
		{"7 / 2", "3"},
		{"2 == 2", "true"},
		{"2 == 3", "false"},
		{"2 < 3", "true"},
		{"3 < 2", "false"},
		{"3 - 3", "0"},
		{"1073741822 + 1", "1073741823"},
		{"1 + 2 * 3 - 4", "3"},
		// Faults, and what is below 0, stay.
		{"1 / 0", "1 / 0"},
		{"1 - 2", "1 - 2"},
		{"1073741823 + 1", "1073741823 + 1"},
		{"(1 - 2) + 5", "(1 - 2) + 5"},
		{"(1 + 1) / (2 - 2)", "2 / 0"},
		// What is no number stays.
		{"true + 1", "true + 1"},
		{"1 + true", "1 + true"},
		{"1 == true", "1 == true"},
		{"fun x -> x + (1 + 2)", "fun x -> x + 3"},
		{"fun x -> 1 + 2 + x", "fun x -> 3 + x"},
		{"fun x -> x + 1 + 2", "fun x -> (x + 1) + 2"},
		// Choices.
		{"if true then 1 else 2", "1"},
		{"if false then 1 else 2", "2"},
		{"if 1 < 2 then 3 + 4 else 5", "7"},
		{"if 1 + 1 == 3 then 3 + 4 else fun x -> 5 + 6", "fun x -> 11"},
		{"if 1 then 2 + 2 else 3 + 3", "if 1 then 4 else 6"},
		{"if 1 / 0 == 1 then 2 + 2 else 3 + 3", "if 1 / 0 == 1 then 4 else 6"},
		{"if if true then false else true then 1 else 2", "2"},
		{"fun x -> if x then if true then 1 else x else x", "fun x -> if x then 1 else x"},
		{"(if true then 1 else 2) + (if false then 3 else 4)", "5"},
		{"if true then do o (1 + 1) else 1 2", "do o 2"},
		// Within all kinds of nodes.
		{"(1 + 1) (2 + 2)", "2 4"},
		{"let x = 1 + 1 in x + (2 + 2)", "let x = 2 in x + 4"},
		{"let x = 1 in if true then x else 2", "let x = 1 in x"},
		{"let rec f x = 1 + 1 in f (2 + 2)", "let rec f x = 2 in f 4"},
		{"do o (1 + 1)", "do o 2"},
		{"handle 1 + 1 with o v k -> k (2 + 2) return r -> r + (3 + 3) end", "handle 2 with o v k -> k 4 return r -> r + 6 end"},
		{"fun x -> let y = 1 in if false then y else x", "fun x -> let y = 1 in x"},
	} {
		p := build.Program(ops + c.s)
		was := slices.Clone(p.Nodes)
		got, e := Tidy(p)
		if e != api.OK || !tree.Same(got.Nodes, build.Program(ops+c.want).Nodes) || !slices.Equal(got.Ops, p.Ops) {
			t.Errorf("%q: %v, %d, want %q", c.s, got, e, c.want)
		}
		if !slices.Equal(p.Nodes, was) {
			t.Errorf("%q is changed", c.s)
		}
	}
}

// P25.1: places: a NodePrim's own for what comes of it, each other node's its own.
func TestPlaces(t *testing.T) {
	for _, c := range []struct {
		s    string
		want []int
	}{
		{"1 + 2", []int{2}},
		{"1 + 2 == 3", []int{6}},
		{"if 1 < 2 then (3 * 4) else 5", []int{17}},
		{"if true then fun x -> x else 5", []int{22, 13}},
	} {
		got, e := Tidy(build.Program(ops + c.s))
		var places []int
		for _, n := range got.Nodes {
			places = append(places, n.At-len(ops))
		}
		if e != api.OK || !slices.Equal(places, c.want) {
			t.Errorf("%q: %v, %d, want %v", c.s, places, e, c.want)
		}
	}
}

func TestForm(t *testing.T) {
	for _, p := range []api.Program{
		{},
		{Nodes: []api.Node{{Kind: api.NodeVar}}},
		{Nodes: []api.Node{{Kind: api.NodeVar, Name: "x"}}},
		{Nodes: []api.Node{{Kind: api.NodeInt, Num: -1}}},
		{Ops: make([]api.Op, 1), Nodes: []api.Node{{Kind: api.NodeInt}}},
	} {
		if got, e := Tidy(p); got.Nodes != nil || got.Ops != nil || e != api.ErrTidyForm {
			t.Errorf("%v: %v, %d", p, got, e)
		}
	}
	p := build.Program(ops + "1")
	got, _ := Tidy(p)
	got.Nodes[0].Num, got.Ops[0].Name = 7, "changed"
	if p.Nodes[0].Num != 1 || p.Ops[0].Name != "o" {
		t.Error("what is answered shares memory with what is handed in")
	}
}

// P25.2: it tells the same, in no more steps, and a tidy tree stays.
func TestTellsTheSame(t *testing.T) {
	random := samples.Random(27)
	smaller := 0
	for i := range 3000 {
		var p api.Program
		if i%2 == 0 {
			p, _ = samples.Typed(&random, 1+random.Below(100))
		} else {
			p = samples.Scoped(&random, 1+random.Below(60))
		}
		if len(p.Nodes) > api.MaxNodes {
			continue
		}
		p, _, _ = scope.Resolve(p)
		got, e := Tidy(p)
		if e != api.OK || !scope.May(got) || len(got.Nodes) > len(p.Nodes) {
			t.Fatalf("%v: %v, %d", p, got, e)
		}
		if again, e := Tidy(got); e != api.OK || !reflect.DeepEqual(again, got) {
			t.Fatalf("%v: %v, then %v, %d", p, got, again, e)
		}
		first, steps, _ := hsem.Run(p, 3000)
		second, fewer, _ := hsem.Run(got, 3000)
		if same, _ := agree.Same(first, second); !same || fewer > steps || first.Kind != api.OutFuel && first != second {
			t.Fatalf("%v: %v in %d steps, %v in %d", p, first, steps, second, fewer)
		}
		was, _, eWas := infer.Infer(p)
		if is, _, e := infer.Infer(got); eWas == api.OK {
			if general, _ := match.Instance(is, was); e != api.OK || !general {
				t.Fatalf("%v: %v becomes %v, %d", p, was, is, e)
			}
		}
		if len(got.Nodes) < len(p.Nodes) {
			smaller++
		}
	}
	if smaller < 400 {
		t.Errorf("only %d became smaller", smaller)
	}
}
