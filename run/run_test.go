package run

import (
	"reflect"
	"slices"
	"testing"

	"trammel/api"
	"trammel/cps"
	"trammel/samples"
	"trammel/scope"
	"trammel/target"
)

func num(n int) api.Outcome     { return api.Outcome{Kind: api.OutInt, Num: n} }
func is(n int) api.Outcome      { return api.Outcome{Kind: api.OutBool, Num: n} }
func fault(n int) api.Outcome   { return api.Outcome{Kind: api.OutFault, Num: n} }
func only(kind int) api.Outcome { return api.Outcome{Kind: kind} }

// term is a part of a term that is built; row puts its nodes in their row.
type term struct {
	api.Target
	children []term
}

func (t term) row(ts []api.Target) []api.Target {
	n := t.Target
	for i, child := range t.children {
		ts = child.row(ts)
		*[]*int{&n.A, &n.B, &n.C}[i] = len(ts) - 1
	}
	return append(ts, n)
}

func of(n api.Target, children ...term) term { return term{n, children} }

func variable(name int) term { return of(api.Target{Kind: api.TgtVar, Num: name}) }
func integer(n int) term     { return of(api.Target{Kind: api.TgtInt, Num: n}) }
func boolean(n int) term     { return of(api.Target{Kind: api.TgtBool, Num: n}) }
func fun(x int, a term) term { return of(api.Target{Kind: api.TgtFun, X: x}, a) }
func fix(x, y int, a term) term {
	return of(api.Target{Kind: api.TgtFix, X: x, Y: y}, a)
}
func app(a, b term) term         { return of(api.Target{Kind: api.TgtApp}, a, b) }
func let(x int, a, b term) term  { return of(api.Target{Kind: api.TgtLet, X: x}, a, b) }
func choose(a, b, c term) term   { return of(api.Target{Kind: api.TgtIf}, a, b, c) }
func prim(p int, a, b term) term { return of(api.Target{Kind: api.TgtPrim, Num: p}, a, b) }
func returns(a term) term        { return of(api.Target{Kind: api.TgtRet}, a) }
func does(o int, a, b term) term { return of(api.Target{Kind: api.TgtOp, Num: o}, a, b) }
func bind(a term, x int, b term) term {
	return of(api.Target{Kind: api.TgtBind, X: x}, a, b)
}
func handle(a term, x int, b term, o, y, z int, c term, w int) term {
	return of(api.Target{Kind: api.TgtCase, X: x, Num: o, Y: y, Z: z, W: w}, a, b, c)
}

// back is a function that returns what it takes.
func back() term { return fun(9, returns(variable(9))) }

// P21.1: each row of the tables, and how many steps there are.
func TestRun(t *testing.T) {
	for i, c := range []struct {
		t     term
		want  api.Outcome
		steps int
	}{
		// A value that is no computation's is stuck in the end.
		{integer(3), only(api.OutStuck), 1},
		{boolean(1), only(api.OutStuck), 1},
		{back(), only(api.OutStuck), 1},
		{variable(0), only(api.OutStuck), 1},
		{returns(integer(3)), num(3), 3},
		{returns(boolean(1)), is(1), 3},
		{returns(boolean(0)), is(0), 3},
		{returns(back()), only(api.OutFun), 3},
		{returns(fix(1, 2, returns(integer(1)))), only(api.OutFun), 3},
		{returns(returns(integer(3))), only(api.OutStuck), 5},
		{returns(does(0, integer(1), back())), only(api.OutStuck), 7},
		{does(0, integer(1), back()), only(api.OutStuck), 5},
		// Functions; what is bound last is found first.
		{app(back(), integer(4)), num(4), 8},
		{app(fun(1, returns(prim(api.PrimMul, variable(1), variable(1)))), integer(5)), num(25), 12},
		{app(fix(1, 1, returns(variable(1))), integer(6)), num(6), 8},
		{app(fix(1, 2, returns(variable(1))), integer(6)), only(api.OutFun), 8},
		{app(fix(1, 2, choose(variable(2), app(variable(1), boolean(0)), returns(integer(8)))), boolean(1)), num(8), 19},
		{let(1, integer(1), let(1, integer(2), returns(variable(1)))), num(2), 9},
		{let(1, integer(1), let(2, integer(2), returns(variable(1)))), num(1), 9},
		{let(1, integer(1), returns(variable(2))), only(api.OutStuck), 5},
		{let(1, let(2, integer(1), variable(2)), returns(variable(2))), only(api.OutStuck), 8},
		{app(integer(1), integer(2)), only(api.OutStuck), 5},
		{app(returns(back()), integer(2)), only(api.OutStuck), 7},
		// Choices and prims.
		{choose(boolean(1), returns(integer(1)), returns(integer(2))), num(1), 6},
		{choose(boolean(0), returns(integer(1)), returns(integer(2))), num(2), 6},
		{choose(integer(1), returns(integer(1)), returns(integer(2))), only(api.OutStuck), 3},
		{choose(returns(boolean(1)), returns(integer(1)), returns(integer(2))), only(api.OutStuck), 5},
		{returns(prim(api.PrimSub, integer(1), integer(3))), num(-2), 7},
		{returns(prim(api.PrimLess, integer(1), integer(3))), is(1), 7},
		{returns(prim(api.PrimDiv, integer(1), integer(0))), fault(api.FaultZero), 6},
		{returns(prim(api.PrimAdd, integer(1), integer(api.MaxInt))), fault(api.FaultOver), 6},
		{returns(prim(api.PrimAdd, integer(1), boolean(1))), only(api.OutStuck), 6},
		{returns(prim(api.PrimAdd, returns(integer(1)), integer(1))), only(api.OutStuck), 8},
		// Binds.
		{bind(returns(integer(1)), 3, returns(variable(3))), num(1), 8},
		{bind(integer(1), 3, returns(variable(3))), only(api.OutStuck), 3},
		{bind(back(), 3, returns(variable(3))), only(api.OutStuck), 3},
		{bind(does(2, integer(1), back()), 3, returns(variable(3))), only(api.OutStuck), 7},
		// An operation is handled, dropped, gone on with, and gone on with twice.
		{handle(returns(integer(1)), 3, returns(variable(3)), 0, 4, 5, returns(integer(9)), 0), num(1), 8},
		{handle(does(0, integer(7), back()), 3, returns(variable(3)), 0, 4, 5, returns(variable(4)), 0), num(7), 10},
		{handle(does(0, integer(7), back()), 3, returns(variable(3)), 0, 4, 5, app(variable(5), integer(8)), 0), num(8), 15},
		{handle(does(0, integer(7), back()), 3, returns(variable(3)), 0, 4, 4, returns(variable(4)), 0), only(api.OutFun), 10},
		{handle(bind(does(0, integer(7), back()), 6, returns(prim(api.PrimAdd, variable(6), integer(100)))),
			3, returns(variable(3)), 0, 4, 5, app(variable(5), integer(8)), 0), num(108), 26},
		{handle(bind(does(0, integer(7), back()), 6, returns(variable(6))), 3, returns(variable(3)), 0, 4, 5,
			returns(variable(5)), 0), only(api.OutFun), 12},
		{handle(integer(1), 3, returns(variable(3)), 0, 4, 5, returns(variable(5)), 0), only(api.OutStuck), 3},
		// Another operation goes further out, if there is who goes on.
		{handle(does(1, integer(7), back()), 3, returns(variable(3)), 0, 4, 5, returns(integer(9)), 0), only(api.OutStuck), 7},
		{let(0, back(), handle(does(1, integer(7), back()), 3, returns(variable(3)), 0, 4, 5, returns(integer(9)), 0)),
			only(api.OutStuck), 10},
		{let(0, fun(1, integer(55)),
			handle(handle(does(1, integer(7), back()), 3, returns(variable(3)), 0, 4, 5, returns(integer(9)), 0),
				3, returns(variable(3)), 1, 4, 5, returns(app(variable(5), variable(4))), 0)), num(55), 25},
		{let(0, fun(1, returns(integer(55))),
			handle(handle(does(1, integer(7), back()), 3, returns(variable(3)), 0, 4, 5, returns(integer(9)), 0),
				3, returns(variable(3)), 1, 4, 5, app(variable(5), variable(4)), 0)), num(55), 25},
		{let(0, fun(1, returns(integer(55))),
			handle(handle(does(1, integer(7), back()), 3, returns(variable(3)), 0, 4, 5, returns(integer(9)), 0),
				3, returns(variable(3)), 1, 4, 5, returns(variable(5)), 0)), only(api.OutFun), 15},
	} {
		got, steps, e := Run(c.t.row(nil), api.MaxFuel)
		if got != c.want || e != api.OK || steps != c.steps {
			t.Errorf("%d: %v, %d steps, %d, want %v, %d", i, got, steps, e, c.want, c.steps)
		}
		for fuel := range steps {
			if got, made, e := Run(c.t.row(nil), fuel); got != only(api.OutFuel) || made != fuel || e != api.OK {
				t.Errorf("%d with %d: %v, %d, %d", i, fuel, got, made, e)
			}
		}
	}
}

func TestForm(t *testing.T) {
	good := []api.Target{{Kind: api.TgtInt}}
	for _, c := range []struct {
		ts   []api.Target
		fuel int
	}{
		{nil, 1},
		{[]api.Target{{Kind: 13}}, 1},
		{[]api.Target{{Kind: api.TgtInt, Num: -1}}, 1},
		{[]api.Target{{Kind: api.TgtVar, Num: api.MaxTargets}}, 1},
		{good, -1},
		{good, api.MaxFuel + 1},
	} {
		if got, steps, e := Run(c.ts, c.fuel); got != (api.Outcome{}) || steps != 0 || e != api.ErrRunForm {
			t.Errorf("%v, %d, %d", got, steps, e)
		}
	}
	if got, steps, e := Run(good, 0); got != only(api.OutFuel) || steps != 0 || e != api.OK {
		t.Errorf("%v, %d, %d", got, steps, e)
	}
}

// P21.1: too many frames.
func TestFrames(t *testing.T) {
	// Each turn leaves the frame of a TgtBind.
	turns := fix(0, 1, choose(prim(api.PrimLess, variable(1), integer(1)), returns(integer(0)),
		bind(app(variable(0), prim(api.PrimSub, variable(1), integer(1))), 2, returns(variable(2)))))
	for n := 4080; n < 4100; n++ {
		ts := app(turns, integer(n)).row(nil)
		got, steps, e := Run(ts, api.MaxFuel)
		if want, wantSteps := plainRun(ts, api.MaxFuel); got != want || steps != wantSteps || e != api.OK {
			t.Errorf("%d: %v, %d steps, %d, want %v, %d", n, got, steps, e, want, wantSteps)
		}
	}
	if got, steps, _ := Run(app(turns, integer(4080)).row(nil), api.MaxFuel); got != num(0) || steps < 4080 {
		t.Errorf("%v, %d", got, steps)
	}
	if got, steps, _ := Run(app(turns, integer(4100)).row(nil), api.MaxFuel); got != only(api.OutFuel) || steps > 100000 {
		t.Errorf("%v, %d", got, steps)
	}
}

// box is a value of the plain machine, which the tests hold Run against: what is bound is found by its name.
type box struct {
	kind string
	num  int
	env  []named
	a, b *box
}

type named struct {
	name int
	is   box
}

type plainFrame struct {
	what  string
	node  int
	env   []named
	value box
}

// plainRun is the chapter's machine.
func plainRun(ts []api.Target, fuel int) (api.Outcome, int) {
	var stack []plainFrame
	var env []named
	node, has, v := len(ts)-1, false, box{}
	stuck := only(api.OutStuck)
	with := func(env []named, more ...named) []named { return slices.Concat(env, more) }
	find := func(env []named, name int) (box, bool) {
		for i := len(env) - 1; i >= 0; i-- {
			if env[i].name == name {
				return env[i].is, true
			}
		}
		return box{}, false
	}
	give := func(x box) { has, v = true, x }
	enter := func(n int, e []named) { has, node, env = false, n, e }
	for steps := 0; ; steps++ {
		if has && len(stack) == 0 {
			if v.kind != "ret" {
				return stuck, steps
			}
			switch v.a.kind {
			case "int":
				return num(v.a.num), steps
			case "bool":
				return is(v.a.num), steps
			case "ret", "op":
				return stuck, steps
			}
			return only(api.OutFun), steps
		}
		if steps == fuel || len(stack) > api.MaxFrames {
			return only(api.OutFuel), steps
		}
		if !has {
			n := ts[node]
			switch n.Kind {
			case api.TgtVar:
				x, ok := find(env, n.Num)
				if !ok {
					return stuck, steps + 1
				}
				give(x)
			case api.TgtInt:
				give(box{kind: "int", num: n.Num})
			case api.TgtBool:
				give(box{kind: "bool", num: n.Num})
			case api.TgtFun:
				give(box{kind: "fun", num: node, env: env})
			case api.TgtFix:
				give(box{kind: "fix", num: node, env: env})
			default:
				stack = append(stack, plainFrame{what: "A", node: node, env: env})
				enter(n.A, env)
			}
			continue
		}
		f := stack[len(stack)-1]
		stack = stack[:len(stack)-1]
		n := ts[f.node]
		if f.what == "B" && n.Kind == api.TgtApp {
			f.what = "give"
		}
		switch {
		case f.what == "give" && f.value.kind == "fun":
			enter(ts[f.value.num].A, with(f.value.env, named{ts[f.value.num].X, v}))
		case f.what == "give" && f.value.kind == "fix":
			enter(ts[f.value.num].A, with(f.value.env, named{ts[f.value.num].X, f.value}, named{ts[f.value.num].Y, v}))
		case f.what == "give" && f.value.kind == "binds":
			stack = append(stack, plainFrame{what: "A", node: f.value.num, env: f.value.env})
			stack = append(stack, plainFrame{what: "give", value: *f.value.a})
		case f.what == "give" && f.value.kind == "goes":
			stack = append(stack, plainFrame{what: "give", value: *f.value.b})
			stack = append(stack, plainFrame{what: "give", value: *f.value.a})
		case f.what == "give":
			return stuck, steps + 1
		case f.what == "A" && (n.Kind == api.TgtApp || n.Kind == api.TgtPrim || n.Kind == api.TgtOp):
			stack = append(stack, plainFrame{"B", f.node, f.env, v})
			enter(n.B, f.env)
		case n.Kind == api.TgtLet:
			enter(n.B, with(f.env, named{n.X, v}))
		case n.Kind == api.TgtIf && v.kind == "bool":
			enter([]int{n.C, n.B}[v.num], f.env)
		case n.Kind == api.TgtPrim && v.kind == "int" && f.value.kind == "int":
			a, b := f.value.num, v.num
			if n.Num == api.PrimDiv && b == 0 {
				return fault(api.FaultZero), steps + 1
			}
			truth := map[bool]int{true: 1}
			switch n.Num {
			case api.PrimEq:
				give(box{kind: "bool", num: truth[a == b]})
				continue
			case api.PrimLess:
				give(box{kind: "bool", num: truth[a < b]})
				continue
			case api.PrimAdd:
				a += b
			case api.PrimSub:
				a -= b
			case api.PrimMul:
				a *= b
			case api.PrimDiv:
				a /= b
			}
			if a > api.MaxInt || a < -api.MaxInt-1 {
				return fault(api.FaultOver), steps + 1
			}
			give(box{kind: "int", num: a})
		case n.Kind == api.TgtRet:
			inner := v
			give(box{kind: "ret", a: &inner})
		case n.Kind == api.TgtOp:
			a, b := f.value, v
			give(box{kind: "op", num: n.Num, a: &a, b: &b})
		case (n.Kind == api.TgtBind || n.Kind == api.TgtCase) && v.kind == "ret":
			enter(n.B, with(f.env, named{n.X, *v.a}))
		case n.Kind == api.TgtBind && v.kind == "op":
			give(box{kind: "op", num: v.num, a: v.a, b: &box{kind: "binds", num: f.node, env: f.env, a: v.b}})
		case n.Kind == api.TgtCase && v.kind == "op" && v.num == n.Num:
			enter(n.C, with(f.env, named{n.Y, *v.a}, named{n.Z, *v.b}))
		case n.Kind == api.TgtCase && v.kind == "op":
			who, ok := find(f.env, n.W)
			if !ok {
				return stuck, steps + 1
			}
			give(box{kind: "op", num: v.num, a: v.a, b: &box{kind: "goes", a: v.b, b: &who}})
		default:
			return stuck, steps + 1
		}
	}
}

// P21.1: any term tells what the plain machine tells.
func TestAnyTerm(t *testing.T) {
	random := samples.Random(24)
	kinds := make(map[int]int)
	for i := range 9000 {
		var ts []api.Target
		switch i % 3 {
		case 0:
			ts = samples.Term(&random, 1+random.Below(40))
		case 1:
			p, _, _ := scope.Resolve(samples.Scoped(&random, 1+random.Below(50)))
			ts, _ = cps.Translate(p)
		case 2:
			p, _ := samples.Typed(&random, 1+random.Below(70))
			p, _, _ = scope.Resolve(p)
			ts, _ = cps.Translate(p)
		}
		if !target.May(ts) {
			continue
		}
		was := slices.Clone(ts)
		fuel := random.Below(3000)
		got, steps, e := Run(ts, fuel)
		if want, wantSteps := plainRun(ts, fuel); got != want || steps != wantSteps || e != api.OK {
			t.Fatalf("%v: %v, %d steps, %d, want %v, %d", ts, got, steps, e, want, wantSteps)
		}
		if !reflect.DeepEqual(ts, was) {
			t.Fatal("what is handed in is changed")
		}
		kinds[got.Kind]++
	}
	for kind := api.OutInt; kind <= api.OutStuck; kind++ {
		if kinds[kind] < 20 {
			t.Errorf("only %d outcomes of kind %d", kinds[kind], kind)
		}
	}
}
