package check

import (
	"reflect"
	"slices"
	"testing"

	"trammel/api"
	"trammel/build"
	"trammel/elab"
	"trammel/samples"
	"trammel/scope"
)

func core(t *testing.T, s string) api.Core {
	t.Helper()
	c, at, e := elab.Core(build.Program(s))
	if e != api.OK {
		t.Fatalf("%q: %d at %d", s, e, at)
	}
	return c
}

// copied is a core that shares no memory with c.
func copied(c api.Core) api.Core {
	made := api.Core{Ops: slices.Clone(c.Ops), Nodes: slices.Clone(c.Nodes)}
	for _, m := range c.Marks {
		m.Type = api.Type{Nodes: slices.Clone(m.Type.Nodes)}
		m.Vars, m.Rows, m.Takes = slices.Clone(m.Vars), slices.Clone(m.Rows), slices.Clone(m.Takes)
		m.Types = slices.Clone(m.Types)
		for i, t := range m.Types {
			m.Types[i] = api.Type{Nodes: slices.Clone(t.Nodes)}
		}
		made.Marks = append(made.Marks, m)
	}
	return made
}

// wide is a function's type of so many operands.
func wide(operands int) api.Type {
	t := build.Base(api.TypeInt)
	for range operands {
		t = build.Fun(build.Base(api.TypeInt), build.Row(-1), t)
	}
	return t
}

const ops = "op o : int -> int; op q : int -> bool; "

var texts = []string{
	"1",
	"true",
	"fun x -> x",
	"let i = fun x -> x in i i (i 2)",
	"let i = fun x -> x in let j = i in if j true then j 1 else i 2",
	"let x = (fun x -> x) 1 in x + x",
	"let rec f x = f x in let g = f in g",
	"let rec f x = if x < 1 then 0 else f (x - 1) in f 3",
	"fun x -> do o (do o x)",
	"let rec f x = do o x in handle f 1 with o v k -> k v return r -> r end",
	"handle do q 1 with q v k -> k (v == 1) return r -> if r then fun x -> x else fun x -> x + 1 end",
	"fun g -> handle handle g 1 with o v k -> k v return r -> r end with q v k -> k true return r -> r end",
	"let k = fun x -> fun y -> x in let rec h a = k a h in 1",
}

// P15.1: what layer 14 tells keeps all rules.
func TestCores(t *testing.T) {
	for _, s := range texts {
		if at, e := Check(core(t, ops+s)); at != 0 || e != api.OK {
			t.Errorf("%q: %d, %d", s, at, e)
		}
	}
	random := samples.Random(17)
	checked := 0
	for i := range 4000 {
		var p api.Program
		if i%2 == 0 {
			p = samples.Scoped(&random, 1+random.Below(20))
		} else {
			p, _ = samples.Typed(&random, 1+random.Below(80))
		}
		p, _, _ = scope.Resolve(p)
		c, _, e := elab.Core(p)
		if e != api.OK {
			continue
		}
		checked++
		was := copied(c)
		if at, e := Check(c); at != 0 || e != api.OK {
			t.Fatalf("%v: %d, %d", p, at, e)
		}
		if !reflect.DeepEqual(c.Marks, was.Marks) {
			t.Fatal("what is handed in is changed")
		}
	}
	if checked < 2000 {
		t.Errorf("only %d cores", checked)
	}
}

func TestForm(t *testing.T) {
	good := core(t, ops+"let i = fun x -> x in i i")
	for i, change := range []func(c *api.Core){
		func(c *api.Core) { *c = api.Core{} },
		func(c *api.Core) { c.Marks = c.Marks[:5] },
		func(c *api.Core) { c.Marks = append(c.Marks, c.Marks[0]) },
		func(c *api.Core) { c.Nodes[0].Num = 1 },
		func(c *api.Core) { c.Nodes[0].Name = "x" },
		func(c *api.Core) { c.Ops[1].Name = "o" },
		func(c *api.Core) { c.Ops[1].Name = "" },
		func(c *api.Core) { c.Marks[3].Type = api.Type{} },
		func(c *api.Core) { c.Marks[3].Type = build.Var(-1) },
		func(c *api.Core) { c.Marks[3].Row.Tail = -2 },
		func(c *api.Core) { c.Marks[3].Row.Counts[0] = 33 },
		func(c *api.Core) { c.Marks[3].Types[0] = api.Type{} },
		func(c *api.Core) { c.Marks[0].Types = []api.Type{{}} },
		func(c *api.Core) { c.Marks[3].Takes[0].Tail = api.MaxVars },
		func(c *api.Core) { c.Marks[0].Takes = []api.Row{build.Row(-1, -1)} },
		func(c *api.Core) { c.Marks[5].Vars = []int{0, 0} },
		func(c *api.Core) { c.Marks[5].Vars = []int{-1} },
		func(c *api.Core) { c.Marks[5].Rows = []int{api.MaxVars} },
		func(c *api.Core) { c.Marks[0].Rows = []int{1, 2, 1} },
		func(c *api.Core) { c.Marks[3].Types = slices.Repeat([]api.Type{build.Base(0)}, api.MaxTypes+1) },
		func(c *api.Core) { c.Marks[3].Takes = slices.Repeat([]api.Row{build.Row(-1)}, api.MaxTypes+1) },
	} {
		c := copied(good)
		change(&c)
		if at, e := Check(c); at != 0 || e != api.ErrCheckForm {
			t.Errorf("%d: %d, %d", i, at, e)
		}
	}
	most := copied(good)
	most.Marks[4].Types = slices.Repeat([]api.Type{build.Base(0)}, api.MaxTypes)
	most.Marks[4].Takes = slices.Repeat([]api.Row{build.Row(-1)}, api.MaxTypes)
	if at, e := Check(most); at != 4 || e != api.ErrCheckType {
		t.Errorf("%d, %d", at, e)
	}
}

// P15.1: one change of a core, and the least node of which a rule is not met then.
func TestRules(t *testing.T) {
	int0, bool0 := build.Base(api.TypeInt), build.Base(api.TypeBool)
	const poly = "let i = fun x -> x in i i"                                // 0 x, 1 fun, 2 i, 3 i, 4 app, 5 let
	const mono = "let x = (fun x -> x) 1 in x"                              // 0 x, 1 fun, 2 1, 3 app, 4 x, 5 let
	const rec = "let rec f x = x in f 1"                                    // 0 x, 1 f, 2 1, 3 app, 4 rec
	const choice = "if true then 1 else 2"                                  // 3 if
	const prim = "1 + 2"                                                    // 2 prim
	const less = "1 < 2"                                                    // 2 prim
	const do = "fun x -> do o x"                                            // 0 x, 1 do, 2 fun
	const handle = "handle do o 1 with o v k -> k v return r -> r == 1 end" // 0 1, 1 do, 2 k, 3 v, 4 app, 5 r, 6 1, 7 prim, 8 handle
	for i, c := range []struct {
		s      string
		change func(ms []api.Mark)
		want   int
	}{
		// The root, variables that are not known, fields of other kinds.
		{"1", func(ms []api.Mark) { ms[0].Row = build.Row(-1, 1) }, 0},
		{"1", func(ms []api.Mark) { ms[0].Row = build.Row(0) }, 0},
		{"1", func(ms []api.Mark) { ms[0].Vars = []int{0} }, 0},
		{"1", func(ms []api.Mark) { ms[0].Rows = []int{0} }, 0},
		{"1", func(ms []api.Mark) { ms[0].Types = []api.Type{int0} }, 0},
		{"1", func(ms []api.Mark) { ms[0].Takes = []api.Row{build.Row(-1)} }, 0},
		{poly, func(ms []api.Mark) { ms[0].Row = build.Row(7); ms[1].Type.Nodes[2].Row = build.Row(7) }, 0},
		{poly, func(ms []api.Mark) { ms[1].Row = build.Row(7) }, 1},
		{poly, func(ms []api.Mark) { ms[1].Row = build.Row(0, 3) }, -1},
		{poly, func(ms []api.Mark) { ms[1].Row = build.Row(-1, 3) }, -1},
		{poly, func(ms []api.Mark) { ms[5].Vars = nil }, 0},
		{poly, func(ms []api.Mark) { ms[5].Rows = nil }, 0},
		{poly, func(ms []api.Mark) { ms[5].Types = []api.Type{int0} }, 5},
		{poly, func(ms []api.Mark) { ms[5].Takes = []api.Row{build.Row(-1)} }, 5},
		{poly, func(ms []api.Mark) { ms[3].Types[0] = build.Var(0) }, 3},
		{poly, func(ms []api.Mark) {
			ms[3].Types[0], ms[3].Type = build.Var(0), build.Fun(build.Var(0), build.Row(-1), build.Var(0))
		}, 3},
		{poly, func(ms []api.Mark) { ms[3].Takes[0] = build.Row(0) }, 3},
		{"let i = fun x -> let j = fun y -> y in x in 1", func(ms []api.Mark) { ms[3].Vars[0] = ms[6].Vars[0] }, 0},
		{"let i = fun x -> let j = fun y -> x in x in 1", func(ms []api.Mark) { ms[3].Vars = append(ms[3].Vars, ms[6].Vars[0]) }, 3},
		{"let i = fun x -> let j = fun y -> x in x in 1", func(ms []api.Mark) { ms[3].Rows = append(ms[3].Rows, ms[6].Rows[0]) }, 3},
		// NodeVar.
		{poly, func(ms []api.Mark) { ms[3].Type = bool0 }, 3},
		{poly, func(ms []api.Mark) { ms[3].Types[0] = bool0 }, 3},
		{poly, func(ms []api.Mark) { ms[3].Types = nil }, 3},
		{poly, func(ms []api.Mark) { ms[3].Types = append(ms[3].Types, int0) }, 3},
		{poly, func(ms []api.Mark) { ms[3].Takes = nil }, 3},
		{poly, func(ms []api.Mark) { ms[3].Takes[0] = build.Row(-1, 1) }, 3},
		{poly, func(ms []api.Mark) { ms[5].Vars = append(ms[5].Vars, 9) }, 2},
		// NodeInt, NodeBool, NodeFun, NodeApp.
		{"1", func(ms []api.Mark) { ms[0].Type = bool0 }, 0},
		{"true", func(ms []api.Mark) { ms[0].Type = int0 }, 0},
		{"fun x -> x", func(ms []api.Mark) { ms[0].Type = bool0 }, 0},
		{"fun x -> x", func(ms []api.Mark) { ms[0].Row = build.Row(-1, 1) }, 1},
		{"fun x -> x", func(ms []api.Mark) { ms[1].Type = int0 }, 1},
		{"fun x -> x", func(ms []api.Mark) { ms[1].Type = bool0; ms[0].Type = bool0 }, 0},
		{"fun x -> x", func(ms []api.Mark) { ms[1].Type = build.Fun(bool0, build.Row(-1), bool0) }, 0},
		{"fun x -> x", func(ms []api.Mark) { ms[1].Type = build.Fun(int0, build.Row(-1), bool0) }, 1},
		{"fun x -> 1", func(ms []api.Mark) { ms[1].Type = build.Fun(wide(3), build.Row(-1), int0) }, -1},
		{mono, func(ms []api.Mark) { ms[1].Row = build.Row(-1, 1) }, 3},
		{mono, func(ms []api.Mark) { ms[2].Row = build.Row(-1, 1) }, 3},
		{mono, func(ms []api.Mark) { ms[3].Type = bool0 }, 3},
		{mono, func(ms []api.Mark) { ms[0].Row = build.Row(-1, 1); ms[1].Type.Nodes[2].Row = build.Row(-1, 1) }, 3},
		// NodeLet.
		{mono, func(ms []api.Mark) { ms[4].Row = build.Row(-1, 1) }, 5},
		{mono, func(ms []api.Mark) { ms[5].Type = bool0 }, 5},
		{mono, func(ms []api.Mark) { ms[5].Vars = []int{0} }, 4},
		{mono, func(ms []api.Mark) { ms[5].Rows = []int{0}; ms[4].Takes = []api.Row{build.Row(-1)} }, 5},
		{mono, func(ms []api.Mark) {
			for i := range 4 {
				ms[i].Row = build.Row(-1, 1)
			}
			ms[1].Type.Nodes[2].Row = build.Row(-1, 1)
		}, 5},
		// NodeRec.
		{rec, func(ms []api.Mark) { ms[4].Types = nil }, 0},
		{"let rec f x = 1 in 2", func(ms []api.Mark) { ms[2].Types = nil }, 2},
		{"let rec f x = 1 in 2", func(ms []api.Mark) { ms[2].Types = []api.Type{int0, int0} }, 2},
		{"let rec f x = x + 1 in f 1", func(ms []api.Mark) { ms[6].Types = nil }, 6},
		{"let rec f x = x + 1 in f 1", func(ms []api.Mark) { ms[6].Types = []api.Type{bool0} }, 0},
		{"let rec f x = 1 in 2", func(ms []api.Mark) { ms[2].Types[0] = wide(126) }, -1},
		{"let rec f x = 1 in 2", func(ms []api.Mark) { ms[2].Types[0] = wide(127) }, 2},
		{"let rec f x = 1 in f", func(ms []api.Mark) { ms[2].Types[0] = wide(127) }, 1},
		{"let rec f x = 1 in 2", func(ms []api.Mark) { ms[1].Row = build.Row(-1, 1) }, 2},
		{"let rec f x = 1 in 2", func(ms []api.Mark) { ms[2].Type = bool0 }, 2},
		{"let rec f x = 1 in 2", func(ms []api.Mark) { ms[0].Row = build.Row(-1, 1) }, -1},
		{"let rec f x = 1 in f 1", func(ms []api.Mark) { ms[0].Row = build.Row(-1, 1) }, 1},
		{"let rec f x = 1 in 2", func(ms []api.Mark) { ms[2].Vars = nil }, 2},
		{rec, func(ms []api.Mark) { ms[4].Vars = nil }, 0},
		// NodeIf, NodePrim.
		{choice, func(ms []api.Mark) { ms[0].Row = build.Row(-1, 1) }, 3},
		{choice, func(ms []api.Mark) { ms[1].Row = build.Row(-1, 1) }, 3},
		{choice, func(ms []api.Mark) { ms[2].Row = build.Row(-1, 1) }, 3},
		{choice, func(ms []api.Mark) { ms[3].Type = bool0 }, 3},
		{prim, func(ms []api.Mark) { ms[0].Row = build.Row(-1, 1) }, 2},
		{prim, func(ms []api.Mark) { ms[1].Row = build.Row(-1, 1) }, 2},
		{prim, func(ms []api.Mark) { ms[2].Type = bool0 }, 2},
		{less, func(ms []api.Mark) { ms[2].Type = int0 }, 2},
		// NodeDo, NodeHandle.
		{do, func(ms []api.Mark) { ms[0].Row = build.Row(-1) }, 1},
		{do, func(ms []api.Mark) { ms[1].Type = bool0 }, 1},
		{do, func(ms []api.Mark) {
			ms[0].Row, ms[1].Row = build.Row(-1), build.Row(-1)
			ms[2].Type.Nodes[2].Row = build.Row(-1)
		}, 1},
		{do, func(ms []api.Mark) {
			ms[0].Row, ms[1].Row = build.Row(-1, 2), build.Row(-1, 2)
			ms[2].Type.Nodes[2].Row = build.Row(-1, 2)
		}, -1},
		{handle, func(ms []api.Mark) { ms[0].Row, ms[1].Row = build.Row(-1, 2), build.Row(-1, 2) }, 8},
		{handle, func(ms []api.Mark) { ms[1].Type = bool0 }, 1},
		{handle, func(ms []api.Mark) { ms[4].Row = build.Row(-1, 1) }, 4},
		{handle, func(ms []api.Mark) { ms[7].Row = build.Row(-1, 1) }, 7},
		{handle, func(ms []api.Mark) { ms[8].Type = int0 }, 2},
		{"handle 1 with o v k -> 2 return r -> 3 end", func(ms []api.Mark) { ms[1].Row = build.Row(-1, 1) }, 3},
		{"handle 1 with o v k -> 2 return r -> 3 end", func(ms []api.Mark) { ms[2].Row = build.Row(-1, 1) }, 3},
		{"handle 1 with o v k -> 2 return r -> 3 end", func(ms []api.Mark) { ms[0].Row = build.Row(-1) }, 3},
		{"handle 1 with o v k -> 2 return r -> 3 end", func(ms []api.Mark) { ms[3].Type = bool0 }, 3},
		{"handle 1 with o v k -> v return r -> r end", nil, -1},
	} {
		made := core(t, ops+c.s)
		if c.change != nil {
			c.change(made.Marks)
		}
		want, wantError := c.want, api.ErrCheckType
		if want < 0 {
			want, wantError = 0, api.OK
		}
		if at, e := Check(made); at != want || e != wantError {
			t.Errorf("%d: %q: %d, %d, want %d, %d", i, c.s, at, e, want, wantError)
		}
	}
}

// P15.1: a handler's row may not be made greater, or its function's type may not be.
func TestHandlerLimits(t *testing.T) {
	full := build.Row(-1, api.MaxCount)
	handler := func(r, inside api.Row, is api.Type) api.Core {
		int0 := build.Base(api.TypeInt)
		handle := []api.Node{
			{Kind: api.NodeInt},
			{Kind: api.NodeVar, Num: 2},
			{Kind: api.NodeVar, Num: 1},
			{Kind: api.NodeHandle, A: 0, B: 1, C: 2},
			{Kind: api.NodeFun, A: 3},
		}
		return api.Core{Ops: []api.Op{{Name: "o"}}, Nodes: handle, Marks: []api.Mark{
			{Type: int0, Row: inside}, {Type: is, Row: r}, {Type: is, Row: r}, {Type: is, Row: r},
			{Type: build.Fun(is, r, is), Row: build.Row(-1)},
		}}
	}
	small, great := wide(40), wide(63)
	if at, e := Check(handler(build.Row(-1, 31), full, small)); at != 0 || e != api.OK {
		t.Errorf("%d, %d", at, e)
	}
	if at, e := Check(handler(full, full, small)); at != 3 || e != api.ErrCheckType {
		t.Errorf("%d, %d", at, e)
	}
	if at, e := Check(handler(build.Row(-1), build.Row(-1, 1), great)); at != 0 || e != api.OK {
		t.Errorf("%d, %d", at, e)
	}
	// A handler in a function of a type that takes no part of its own.
	greatest := wide(127)
	c := api.Core{Ops: []api.Op{{Name: "o"}}}
	c.Nodes = []api.Node{
		{Kind: api.NodeInt},
		{Kind: api.NodeVar, Num: 2},
		{Kind: api.NodeVar, Num: 1},
		{Kind: api.NodeHandle, A: 0, B: 1, C: 2},
		{Kind: api.NodeInt},
		{Kind: api.NodeRec, A: 3, B: 4},
	}
	c.Marks = []api.Mark{
		{Type: build.Base(api.TypeInt), Row: build.Row(-1, 1)}, {Type: greatest, Row: build.Row(-1)}, {Type: greatest, Row: build.Row(-1)},
		{Type: greatest, Row: build.Row(-1)}, {Type: build.Base(api.TypeInt), Row: build.Row(-1)},
		{Type: build.Base(api.TypeInt), Row: build.Row(-1), Types: []api.Type{greatest}},
	}
	if at, e := Check(c); at != 3 || e != api.ErrCheckType {
		t.Errorf("%d, %d", at, e)
	}
}
