package hsem

import (
	"slices"
	"strconv"
	"strings"
	"testing"

	"trammel/api"
	"trammel/build"
	"trammel/infer"
	"trammel/samples"
	"trammel/scope"
)

func num(n int) api.Outcome   { return api.Outcome{Kind: api.OutInt, Num: n} }
func is(n int) api.Outcome    { return api.Outcome{Kind: api.OutBool, Num: n} }
func fault(n int) api.Outcome { return api.Outcome{Kind: api.OutFault, Num: n} }
func only(kind int) api.Outcome {
	return api.Outcome{Kind: kind}
}

const ops = "op o : int -> int; op q : int -> bool; "

// P17.1: what comes of programs, and in how many steps.
func TestRun(t *testing.T) {
	for _, c := range []struct {
		s     string
		want  api.Outcome
		steps int
	}{
		{"7", num(7), 1},
		{"true", is(1), 1},
		{"false", is(0), 1},
		{"fun x -> x", only(api.OutFun), 1},
		{"1 + 2", num(3), 5},
		{"1 - 2", num(-1), 5},
		{"7 / 2", num(3), 5},
		{"(1 - 8) / 2", num(-3), 9},
		{"1 < 2", is(1), 5},
		{"2 == 1", is(0), 5},
		{"1 / 0", fault(api.FaultZero), 5},
		{"1073741823 + 1", fault(api.FaultOver), 5},
		{"(0 - 1073741823) - 1", num(-1073741824), 9},
		{"((0 - 1073741823) - 1) / (0 - 1)", fault(api.FaultOver), 17},
		{"if true then 1 else 2", num(1), 4},
		{"if false then 1 else 2", num(2), 4},
		{"if 1 then 2 else 3", only(api.OutStuck), 3},
		{"if fun x -> x then 2 else 3", only(api.OutStuck), 3},
		{"let x = 5 in x", num(5), 4},
		{"(fun x -> x) 9", num(9), 6},
		{"1 2", only(api.OutStuck), 5},
		{"true 2", only(api.OutStuck), 5},
		{"1 + true", only(api.OutStuck), 5},
		{"true + 1", only(api.OutStuck), 5},
		{"(fun x -> x) + 1", only(api.OutStuck), 5},
		{"1 == true", only(api.OutStuck), 5},
		{"let rec f x = x in 3", num(3), 2},
		{"let rec f x = x in f", only(api.OutFun), 2},
		{"let rec f x = if x < 1 then 0 else x + f (x - 1) in f 3", num(6), 74},
		{"do o 1", only(api.OutStuck), 3},
		{"handle 1 with o v k -> 2 return r -> r + 10 end", num(11), 8},
		{"handle do o 1 with o v k -> v + 10 return r -> r end", num(11), 9},
		{"handle do o 1 with o v k -> k return r -> r end", only(api.OutFun), 5},
		{"handle do o 1 with o v k -> k v return r -> r end", num(1), 11},
		{"handle do q 1 with o v k -> k v return r -> r end", only(api.OutStuck), 4},
		{"handle 1 + do o 5 with o v k -> k (v * 2) + k (v * 3) return r -> r end", num(27), 34},
		// A handler stays over what it goes on with.
		{"handle do o 1 + do o 10 with o v k -> k (v + 1) return r -> r + 100 end", num(113), 34},
		// The nearest one of the operation; what it does itself goes to one further out.
		{"handle handle do o 1 with o v k -> k (v + 1) return r -> r end with o v k -> 50 return r -> r end", num(2), 18},
		{"handle handle do o 1 with o v k -> k (do o (v + 1)) return r -> r end with o v k -> k (v + 50) return r -> r end", num(52), 29},
		{"handle handle do o 1 with q v k -> k true return r -> r end with o v k -> k (v + 1) return r -> r end", num(2), 18},
		// A state that is handed on.
		{"(handle do o 1 + do o 10 with o v k -> fun s -> (k s) (s + v) return r -> fun s -> (r * 100) + s end) 3", num(714), 53},
		// A continuation that nobody goes on with, one that is kept, one that comes back.
		{"let k = handle do o 1 with o v k -> k return r -> r + 1 end in k 4 + k 40", num(46), 32},
		{"(fun f -> f 1 2) (fun x -> fun y -> x - y)", num(-1), 20},
	} {
		got, steps, e := Run(build.Program(ops+c.s), api.MaxFuel)
		if got != c.want || e != api.OK {
			t.Errorf("%q: %v, %d steps, %d, want %v", c.s, got, steps, e, c.want)
		}
		if steps != c.steps {
			t.Errorf("%q: %d steps, want %d", c.s, steps, c.steps)
		}
	}
}

// P17.1: with less fuel than steps it is not over, with as much it is.
func TestFuel(t *testing.T) {
	for _, s := range []string{"1 + 2", "1 / 0", "1 2", "handle 1 + do o 5 with o v k -> k (v * 2) + k (v * 3) return r -> r end", "7"} {
		p := build.Program(ops + s)
		want, steps, _ := Run(p, api.MaxFuel)
		for fuel := range steps {
			if got, made, e := Run(p, fuel); got != only(api.OutFuel) || made != fuel || e != api.OK {
				t.Errorf("%q with %d: %v, %d, %d", s, fuel, got, made, e)
			}
		}
		for _, fuel := range []int{steps, steps + 1} {
			if got, made, e := Run(p, fuel); got != want || made != steps || e != api.OK {
				t.Errorf("%q with %d: %v, %d, %d", s, fuel, got, made, e)
			}
		}
	}
}

func TestForm(t *testing.T) {
	good := build.Program("1")
	for _, c := range []struct {
		p    api.Program
		fuel int
	}{
		{api.Program{}, 5},
		{api.Program{Nodes: []api.Node{{Kind: api.NodeVar}}}, 5},
		{api.Program{Nodes: []api.Node{{Kind: api.NodeVar, Name: "x"}}}, 5},
		{good, -1},
		{good, api.MaxFuel + 1},
		{good, -1 << 63},
	} {
		if got, steps, e := Run(c.p, c.fuel); got != (api.Outcome{}) || steps != 0 || e != api.ErrHsemForm {
			t.Errorf("%v, %d, %d", got, steps, e)
		}
	}
}

// P17.1: MaxFrames frames may be, one more may not; the step that puts it there counts.
func TestFrames(t *testing.T) {
	// Each turn leaves one frame of the sum.
	p := func(n string) api.Program {
		return build.Program("let rec f x = if x < 1 then 0 else 1 + f (x - 1) in f " + n)
	}
	// Behind n turns there are n frames, and at most 3 more in the last one.
	if got, _, _ := Run(p("4092"), api.MaxFuel); got != num(4092) {
		t.Errorf("%v", got)
	}
	got, steps, e := Run(p("100000"), api.MaxFuel)
	want, wantSteps := plainRun(p("100000"), api.MaxFuel)
	if got != only(api.OutFuel) || e != api.OK || got != want || steps != wantSteps || steps > 100000 {
		t.Errorf("%v, %d steps, want %v, %d", got, steps, want, wantSteps)
	}
	for n := 4085; n < 4100; n++ {
		p := p(strconv.Itoa(n))
		got, steps, _ := Run(p, api.MaxFuel)
		if want, wantSteps := plainRun(p, api.MaxFuel); got != want || steps != wantSteps {
			t.Errorf("%d: %v, %d, want %v, %d", n, got, steps, want, wantSteps)
		}
	}
}

// box is a value of the plain machine, which the tests hold Run against.
type box struct {
	kind  int
	num   int
	env   []box
	stack []plainFrame
}

type plainFrame struct {
	node  int
	env   []box
	first *box
}

// plainRun is the chapter's machine, with stacks that are copied.
func plainRun(p api.Program, fuel int) (api.Outcome, int) {
	var stack []plainFrame
	var env []box
	node, has, v := len(p.Nodes)-1, false, box{}
	bind := func(env []box, vs ...box) []box { return slices.Concat(env, vs) }
	give := func(x box) { has, v = true, x }
	enter := func(n int, e []box) { has, node, env = false, n, e }
	for steps := 0; ; steps++ {
		if has && len(stack) == 0 {
			return api.Outcome{Kind: min(v.kind, api.OutFun), Num: v.num * (1 - v.kind/2)}, steps
		}
		if steps == fuel || len(stack) > api.MaxFrames {
			return only(api.OutFuel), steps
		}
		if !has {
			n := p.Nodes[node]
			switch n.Kind {
			case api.NodeVar:
				give(env[len(env)-1-n.Num])
			case api.NodeInt:
				give(box{kind: 0, num: n.Num})
			case api.NodeBool:
				give(box{kind: 1, num: n.Num})
			case api.NodeFun:
				give(box{kind: 2, num: node, env: env})
			case api.NodeRec:
				enter(n.B, bind(env, box{kind: 2, num: node, env: env}))
			default:
				stack = append(stack, plainFrame{node, env, nil})
				enter(n.A, env)
			}
			continue
		}
		f := stack[len(stack)-1]
		stack = stack[:len(stack)-1]
		n := p.Nodes[f.node]
		switch {
		case (n.Kind == api.NodeApp || n.Kind == api.NodePrim) && f.first == nil:
			first := v
			stack = append(stack, plainFrame{f.node, f.env, &first})
			enter(n.B, f.env)
		case n.Kind == api.NodeApp && f.first.kind == 2 && p.Nodes[f.first.num].Kind == api.NodeFun:
			enter(p.Nodes[f.first.num].A, bind(f.first.env, v))
		case n.Kind == api.NodeApp && f.first.kind == 2:
			enter(p.Nodes[f.first.num].A, bind(f.first.env, *f.first, v))
		case n.Kind == api.NodeApp && f.first.kind == 3:
			stack = slices.Concat(stack, f.first.stack)
		case n.Kind == api.NodeLet:
			enter(n.B, bind(f.env, v))
		case n.Kind == api.NodeIf && v.kind == 1 && v.num == 1:
			enter(n.B, f.env)
		case n.Kind == api.NodeIf && v.kind == 1:
			enter(n.C, f.env)
		case n.Kind == api.NodePrim && f.first.kind == 0 && v.kind == 0:
			a, b := f.first.num, v.num
			if n.Num == api.PrimDiv && b == 0 {
				return fault(api.FaultZero), steps + 1
			}
			got := box{kind: n.Num / api.PrimEq}
			switch {
			case n.Num == api.PrimAdd:
				got.num = a + b
			case n.Num == api.PrimSub:
				got.num = a - b
			case n.Num == api.PrimMul:
				got.num = a * b
			case n.Num == api.PrimDiv:
				got.num = a / b
			case n.Num == api.PrimEq && a == b, n.Num == api.PrimLess && a < b:
				got.num = 1
			}
			if got.num > api.MaxInt || got.num < -api.MaxInt-1 {
				return fault(api.FaultOver), steps + 1
			}
			give(got)
		case n.Kind == api.NodeDo:
			at := len(stack) - 1
			for at >= 0 && (p.Nodes[stack[at].node].Kind != api.NodeHandle || p.Nodes[stack[at].node].Num != n.Num) {
				at--
			}
			if at < 0 {
				return only(api.OutStuck), steps + 1
			}
			h := stack[at]
			k := box{kind: 3, stack: slices.Clone(stack[at:])}
			stack = stack[:at]
			enter(p.Nodes[h.node].B, bind(h.env, v, k))
		case n.Kind == api.NodeHandle:
			enter(n.C, bind(f.env, v))
		default:
			return only(api.OutStuck), steps + 1
		}
	}
}

// P17.1, P17.2: any program tells what the plain machine tells, and is not stuck if it has a type.
func TestAnyProgram(t *testing.T) {
	random := samples.Random(20)
	kinds := make(map[int]int)
	for i := range 6000 {
		var p api.Program
		if i%3 == 0 {
			p = samples.Scoped(&random, 1+random.Below(60))
		} else {
			p, _ = samples.Typed(&random, 1+random.Below(120))
		}
		if len(p.Nodes) > api.MaxNodes {
			continue
		}
		p, _, _ = scope.Resolve(p)
		fuel := random.Below(3000)
		got, steps, e := Run(p, fuel)
		if want, wantSteps := plainRun(p, fuel); got != want || steps != wantSteps || e != api.OK {
			t.Fatalf("%v: %v, %d steps, %d, want %v, %d", p, got, steps, e, want, wantSteps)
		}
		kinds[got.Kind]++
		if got.Kind == api.OutStuck {
			if is, _, e := infer.Infer(p); e == api.OK {
				t.Fatalf("%v is stuck, though it is %v", p, is)
			}
		}
	}
	for kind := api.OutInt; kind <= api.OutStuck; kind++ {
		if kinds[kind] < 15 {
			t.Errorf("only %d outcomes of kind %d", kinds[kind], kind)
		}
	}
}

// What stands atop of a handler is taken and put back soon, however much it is: else these would not end.
func TestDeepStacks(t *testing.T) {
	for _, s := range []string{
		// Frames between the operation and its handler.
		"let rec w x = do o x + w x in let rec f x = if x < 1 then w 0 else 1 + f (x - 1) in " +
			"handle f 4000 with o v k -> k v return r -> r end",
		// Handlers of another operation between.
		"let rec w x = w (do o x) in let rec f x = if x < 1 then w 0 else handle f (x - 1) with q v k -> k true return r -> r end in " +
			"handle f 4000 with o v k -> k v return r -> r end",
		// Handlers of the same operation, each of which hands on.
		"let rec w x = w (do o x) in let rec f x = if x < 1 then w 0 else handle f (x - 1) with o v k -> k (do o v) return r -> r end in " +
			"handle f 2000 with o v k -> k v return r -> r end",
		// Names bound far out.
		strings.Repeat("let a = 1 in ", 36) + "let rec w x = w (x + a) in w 0",
	} {
		if got, steps, e := Run(build.Program(ops+s), api.MaxFuel); got.Kind != api.OutFuel || e != api.OK {
			t.Errorf("%q: %v, %d steps, %d", s, got, steps, e)
		}
	}
}
