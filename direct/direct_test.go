package direct

import (
	"testing"

	"trammel/api"
	"trammel/parse"
	"trammel/samples"
	"trammel/scope"
)

// P18.1: the root of a text, of which names may be left.
func TestDirect(t *testing.T) {
	for _, c := range []struct {
		s    string
		want bool
	}{
		{"x", true},
		{"1", true},
		{"true", true},
		{"fun x -> x x", true},
		{"f x", false},
		{"(fun x -> x) 1", false},
		{"do o 1", false},
		{"handle 1 with o v k -> 2 return r -> 3 end", false},
		{"1 + 2", true},
		{"1 + (2 * (3 - x))", true},
		{"f x + 1", false},
		{"1 + f x", false},
		{"1 + (2 * (3 - f x))", false},
		{"let x = 1 in x", true},
		{"let x = f x in 1", false},
		{"let x = 1 in f x", false},
		{"let x = fun y -> f y in x", true},
		{"if a then b else c", true},
		{"if f a then b else c", false},
		{"if a then f b else c", false},
		{"if a then b else f c", false},
		{"let rec f x = f x in f", true},
		{"let rec f x = do o x in 1", true},
		{"let rec f x = 1 in f 1", false},
		{"if let x = 1 in x == 2 then fun x -> do o x else 3 * 4", true},
		{"if let x = 1 in x == 2 then fun x -> do o x else 3 * do o 4", false},
	} {
		p, _, e := parse.Parse(c.s)
		if e != api.OK {
			t.Fatalf("%q: %d", c.s, e)
		}
		if got, e := Direct(p.Nodes, len(p.Nodes)-1); got != c.want || e != api.OK {
			t.Errorf("%q: %v, %d", c.s, got, e)
		}
	}
}

func TestForm(t *testing.T) {
	good := []api.Node{{Kind: api.NodeInt}}
	for i, c := range []struct {
		ns []api.Node
		at int
	}{
		{nil, 0}, {good, -1}, {good, 1}, {good, 1 << 60},
		{[]api.Node{{Kind: api.NodeInt}, {Kind: api.NodeInt}}, 0},
		{[]api.Node{{Kind: 11}}, 0},
		{[]api.Node{{Kind: api.NodeFun, A: 0}}, 0},
		{[]api.Node{{Kind: api.NodeVar, Name: "X"}}, 0},
		{[]api.Node{{Kind: api.NodeInt}, {Kind: api.NodeFun, X: "x"}, {Kind: api.NodeVar}, {Kind: api.NodeApp, A: 1, B: 2}}, 0},
	} {
		if got, e := Direct(c.ns, c.at); got || e != api.ErrDirectForm {
			t.Errorf("%d: %v, %d", i, got, e)
		}
	}
}

// P18.1: each node of any tree, named and resolved, is what its children make it.
func TestEachNode(t *testing.T) {
	random := samples.Random(22)
	for range 300 {
		named := samples.Scoped(&random, 1+random.Below(60))
		p, _, _ := scope.Resolve(named)
		for at, n := range p.Nodes {
			is := func(child int) bool {
				d, _ := Direct(p.Nodes, child)
				return d
			}
			want := false
			switch n.Kind {
			case api.NodeVar, api.NodeInt, api.NodeBool, api.NodeFun:
				want = true
			case api.NodePrim, api.NodeLet:
				want = is(n.A) && is(n.B)
			case api.NodeIf:
				want = is(n.A) && is(n.B) && is(n.C)
			case api.NodeRec:
				want = is(n.B)
			}
			got, e := Direct(p.Nodes, at)
			again, eAgain := Direct(named.Nodes, at)
			if got != want || e != api.OK || again != got || eAgain != api.OK {
				t.Fatalf("%v at %d: %v, %d", p.Nodes, at, got, e)
			}
		}
	}
}
