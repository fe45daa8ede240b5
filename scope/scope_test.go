package scope

import (
	"reflect"
	"slices"
	"testing"

	"trammel/api"
	"trammel/parse"
	"trammel/samples"
)

func program(t *testing.T, s string) api.Program {
	t.Helper()
	p, at, e := parse.Parse(s)
	if e != api.OK {
		t.Fatalf("%q: %d at %d", s, e, at)
	}
	return p
}

// P6.1: what the variables of a text, and its operations, are resolved to, in the row of its nodes.
func TestResolve(t *testing.T) {
	const ops = "op o : int -> int; op q : int -> bool; "
	for _, c := range []struct {
		s    string
		want []int
	}{
		{"fun x -> x", []int{0}},
		{"fun x -> fun y -> x y", []int{1, 0}},
		{"fun x -> fun x -> x", []int{0}},
		{"fun x -> let y = x in x y", []int{0, 1, 0}},
		{"fun x -> let x = x in x", []int{0, 0}},
		{"fun x -> let rec f y = x f y in x f", []int{2, 1, 0, 1, 0}},
		{"fun f -> let rec f f = f in f", []int{0, 0}},
		{"fun y -> let rec f x = y in y", []int{2, 1}},
		{"fun x -> (fun y -> x) x", []int{1, 0}},
		{"fun a -> fun b -> if a then b else fun c -> a b c", []int{1, 0, 2, 1, 0}},
		{"fun a -> fun b -> a + b", []int{1, 0}},
		{"fun a -> do o a", []int{0, 0}},
		{"fun a -> do q a", []int{0, 1}},
		{"fun a -> handle a with q v k -> a k v return r -> a r end", []int{0, 2, 0, 1, 1, 0, 1}},
		{"fun k -> handle k with o k k -> k return k -> k end", []int{0, 0, 0, 0}},
		{"handle do o 1 with o v k -> handle do q 2 with q w l -> k v w l return a -> a k end return r -> r end",
			[]int{0, 1, 2, 3, 1, 0, 0, 1, 1, 0, 0}},
	} {
		p := program(t, ops+c.s)
		got, at, e := Resolve(p)
		var nums []int
		for _, n := range got.Nodes {
			switch n.Kind {
			case api.NodeVar, api.NodeDo, api.NodeHandle:
				nums = append(nums, n.Num)
			}
		}
		if e != api.OK || at != 0 || !slices.Equal(nums, c.want) || !slices.Equal(got.Ops, p.Ops) || !May(got) {
			t.Errorf("%q: %v, %d, %d, want %v", c.s, nums, at, e, c.want)
		}
		for i, n := range got.Nodes {
			was := p.Nodes[i]
			if n.Name+n.X+n.Y+n.Z != "" || n.Kind != was.Kind || n.At != was.At || n.A != was.A || n.B != was.B || n.C != was.C {
				t.Errorf("%q: node %d is %v", c.s, i, n)
			}
		}
	}
}

// P6.1: the first error, each node ahead of its children.
func TestUnbound(t *testing.T) {
	const op = "op o : int -> int; "
	for _, c := range []struct {
		s    string
		at   int
		want api.Errno
	}{
		{"x", 0, api.ErrScopeName},
		{"fun x -> y", 9, api.ErrScopeName},
		{"a b", 0, api.ErrScopeName},
		{"fun a -> b c", 9, api.ErrScopeName},
		{"let x = x in x", 8, api.ErrScopeName},
		{"let rec f x = f x in x", 21, api.ErrScopeName},
		{"(fun x -> 1) x", 13, api.ErrScopeName},
		{"if 1 then x else y", 10, api.ErrScopeName},
		{"1 + x", 4, api.ErrScopeName},
		{"do p 1", 0, api.ErrScopeOp},
		{"do p x", 0, api.ErrScopeOp},
		{"x (do p 1)", 0, api.ErrScopeName},
		{"(do p 1) x", 1, api.ErrScopeOp},
		{"handle x with p v k -> y return r -> z end", 0, api.ErrScopeOp},
		{op + "handle 1 with o v k -> r return r -> v end", 42, api.ErrScopeName},
		{op + "handle v with o v k -> v return r -> r end", 26, api.ErrScopeName},
		{op + "handle 1 with o v k -> v return r -> v end", 56, api.ErrScopeName},
		{op + "handle 1 with o v k -> v return r -> k end", 56, api.ErrScopeName},
		{op + "handle do p 1 with o v k -> v return r -> x end", 26, api.ErrScopeOp},
	} {
		if p, at, e := Resolve(program(t, c.s)); p.Nodes != nil || p.Ops != nil || at != c.at || e != c.want {
			t.Errorf("%q: %v, %d, %d, want %d, %d", c.s, p, at, e, c.at, c.want)
		}
	}
}

func TestForm(t *testing.T) {
	good := []api.Node{{Kind: api.NodeInt, At: 5}}
	bad := []api.Node{{Kind: api.NodeVar, At: 5}}
	op := api.Op{Name: "o"}
	for _, c := range []struct {
		p    api.Program
		want api.Errno
	}{
		{api.Program{}, api.ErrScopeForm},
		{api.Program{Nodes: bad}, api.ErrScopeForm},
		{api.Program{Nodes: bad, Ops: []api.Op{op, op}}, api.ErrScopeForm},
		{api.Program{Nodes: good, Ops: []api.Op{{Name: "in"}}}, api.ErrScopeForm},
		{api.Program{Nodes: good, Ops: make([]api.Op, 5)}, api.ErrScopeForm},
		{api.Program{Nodes: good, Ops: []api.Op{op, {Name: "q"}, {Name: "o", From: 1}}}, api.ErrScopeOp},
	} {
		if p, at, e := Resolve(c.p); p.Nodes != nil || p.Ops != nil || at != 0 || e != c.want {
			t.Errorf("%v: %v, %d, %d", c.p, p, at, e)
		}
		if May(c.p) {
			t.Errorf("%v may be", c.p)
		}
	}
	two := program(t, "op o : int -> int; op o : int -> int; x")
	if _, at, e := Resolve(two); at != 0 || e != api.ErrScopeOp {
		t.Errorf("%d, %d", at, e)
	}
}

// P6.2: each number that is too great, or below 0, and each name that is left.
func TestMay(t *testing.T) {
	p, _, e := Resolve(program(t, "op o : int -> int; op q : int -> int; "+
		"handle let rec f x = f x in (fun y -> y) (do q 1) with o v k -> k v return r -> let z = r in z + r end"))
	if e != api.OK || !May(p) {
		t.Fatal(e)
	}
	most := map[int]int{0: 2, 1: 2, 3: 2, 6: 2, 9: 2, 10: 2, 12: 1, 13: 2, 14: 2, 17: 2}
	seen := 0
	for i, n := range p.Nodes {
		if n.Kind != api.NodeVar && n.Kind != api.NodeDo && n.Kind != api.NodeHandle {
			continue
		}
		seen++
		for _, num := range []int{-1, -1 << 63, 0, 1, 2, 3, 1<<63 - 1} {
			changed := api.Program{Ops: p.Ops, Nodes: slices.Clone(p.Nodes)}
			changed.Nodes[i].Num = num
			if got, want := May(changed), num >= 0 && num < most[i]; got != want {
				t.Errorf("node %d (%v) with %d: %v", i, n, num, got)
			}
		}
	}
	if seen != len(most) {
		t.Errorf("%d nodes have numbers for names", seen)
	}
	for i := range p.Nodes {
		for _, f := range []func(n *api.Node){
			func(n *api.Node) { n.Name = "x" },
			func(n *api.Node) { n.X = "x" },
			func(n *api.Node) { n.Y = "x" },
			func(n *api.Node) { n.Z = "x" },
			func(n *api.Node) { n.Kind = 11 },
			func(n *api.Node) { n.At = -1 },
		} {
			changed := api.Program{Ops: p.Ops, Nodes: slices.Clone(p.Nodes)}
			f(&changed.Nodes[i])
			if May(changed) {
				t.Errorf("node %d changed may be", i)
			}
		}
	}
	for _, ops := range [][]api.Op{nil, p.Ops[:1], {p.Ops[0], p.Ops[0]}, {{Name: "o"}, {Name: "Q"}}, {{Name: "o"}, {Name: "q", From: 2}}} {
		if May(api.Program{Ops: ops, Nodes: p.Nodes}) {
			t.Errorf("may be with %v", ops)
		}
	}
	if !May(api.Program{Nodes: []api.Node{{Kind: api.NodeInt}}}) || May(program(t, "fun x -> x")) {
		t.Error("a tree without names may be, one with names not")
	}
}

// lookup resolves anew, by a list of names for each place: it is what TestAnyProgram holds Resolve against.
func lookup(ns []api.Node, at int, bound []string, nums map[int]int) {
	n := ns[at]
	with := func(names ...string) []string { return slices.Concat(bound, names) }
	switch n.Kind {
	case api.NodeVar:
		rest := slices.Clone(bound)
		slices.Reverse(rest)
		nums[at] = slices.Index(rest, n.Name)
	case api.NodeFun:
		lookup(ns, n.A, with(n.X), nums)
	case api.NodeLet:
		lookup(ns, n.A, bound, nums)
		lookup(ns, n.B, with(n.X), nums)
	case api.NodeRec:
		lookup(ns, n.A, with(n.X, n.Y), nums)
		lookup(ns, n.B, with(n.X), nums)
	case api.NodeHandle:
		lookup(ns, n.A, bound, nums)
		lookup(ns, n.B, with(n.X, n.Y), nums)
		lookup(ns, n.C, with(n.Z), nums)
	case api.NodeIf:
		lookup(ns, n.C, bound, nums)
		fallthrough
	case api.NodeApp, api.NodePrim:
		lookup(ns, n.B, bound, nums)
		fallthrough
	case api.NodeDo:
		lookup(ns, n.A, bound, nums)
	}
}

func TestAnyProgram(t *testing.T) {
	random := samples.Random(6)
	for range 2000 {
		p := samples.Scoped(&random, 1+random.Below(100))
		was := api.Program{Ops: slices.Clone(p.Ops), Nodes: slices.Clone(p.Nodes)}
		got, at, e := Resolve(p)
		if e != api.OK || at != 0 || !May(got) || !reflect.DeepEqual(p, was) {
			t.Fatalf("%v: %v, %d, %d", p, got, at, e)
		}
		nums := make(map[int]int)
		lookup(p.Nodes, len(p.Nodes)-1, nil, nums)
		for i, n := range got.Nodes {
			if n.Kind == api.NodeVar && n.Num != nums[i] {
				t.Fatalf("node %d of %v is %d, want %d", i, p, n.Num, nums[i])
			}
			if (n.Kind == api.NodeDo || n.Kind == api.NodeHandle) && p.Ops[n.Num].Name != p.Nodes[i].Name {
				t.Fatalf("node %d of %v is %d", i, p, n.Num)
			}
		}
	}
}
