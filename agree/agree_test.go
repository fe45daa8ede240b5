package agree

import (
	"testing"

	"trammel/api"
	"trammel/build"
	"trammel/cps"
	"trammel/hsem"
	"trammel/infer"
	"trammel/run"
	"trammel/samples"
	"trammel/scope"
)

// P22.1.
func TestFuel(t *testing.T) {
	for _, c := range []struct {
		steps, want int
		e           api.Errno
	}{
		{0, 1024, api.OK},
		{1, 4096, api.OK},
		{2, 9216, api.OK},
		{30, 984064, api.OK},
		{-1, 0, api.ErrAgreeForm},
		{31, 0, api.ErrAgreeForm},
		{1 << 62, 0, api.ErrAgreeForm},
		{-1 << 63, 0, api.ErrAgreeForm},
	} {
		if got, e := Fuel(c.steps); got != c.want || e != c.e {
			t.Errorf("Fuel(%d) = %d, %d, want %d, %d", c.steps, got, e, c.want, c.e)
		}
	}
}

func out(kind, num int) api.Outcome { return api.Outcome{Kind: kind, Num: num} }

// P22.2.
func TestSame(t *testing.T) {
	good := []api.Outcome{
		out(api.OutInt, 0), out(api.OutInt, 1), out(api.OutInt, -1), out(api.OutInt, api.MaxInt), out(api.OutInt, -api.MaxInt-1),
		out(api.OutBool, 0), out(api.OutBool, 1), out(api.OutFun, 0), out(api.OutFault, api.FaultOver),
		out(api.OutFault, api.FaultZero), out(api.OutFuel, 0), out(api.OutStuck, 0),
	}
	for i, a := range good {
		for j, b := range good {
			want := i == j || a.Kind == api.OutFuel || b.Kind == api.OutFuel
			if got, e := Same(a, b); got != want || e != api.OK {
				t.Errorf("Same(%v, %v) = %v, %d", a, b, got, e)
			}
		}
	}
	for _, bad := range []api.Outcome{
		out(api.OutInt, api.MaxInt+1), out(api.OutInt, -api.MaxInt-2), out(api.OutBool, 2), out(api.OutBool, -1),
		out(api.OutFun, 1), out(api.OutFault, 2), out(api.OutFault, -1), out(api.OutFuel, 1), out(api.OutStuck, -1),
		out(-1, 0), out(6, 0), out(1<<62, 0),
	} {
		for _, c := range [][2]api.Outcome{{bad, out(api.OutFuel, 0)}, {out(api.OutFuel, 0), bad}, {bad, bad}} {
			if got, e := Same(c[0], c[1]); got || e != api.ErrAgreeForm {
				t.Errorf("Same(%v, %v) = %v, %d", c[0], c[1], got, e)
			}
		}
	}
}

// both runs a resolved program by layers 17 and 21.
func both(t *testing.T, p api.Program, fuel int) (api.Outcome, api.Outcome) {
	t.Helper()
	first, steps, e := hsem.Run(p, fuel)
	if e != api.OK {
		t.Fatalf("%v: %d", p, e)
	}
	term, e := cps.Translate(p)
	if e != api.OK {
		t.Fatalf("%v: %d", p, e)
	}
	second, _, e := run.Run(term, fuel)
	if e != api.OK {
		t.Fatalf("%v: %d", p, e)
	}
	if same, e := Same(first, second); !same || e != api.OK {
		t.Fatalf("%v: %v and %v", p, first, second)
	}
	if first.Kind != api.OutFuel && steps <= api.MaxSteps {
		enough, _ := Fuel(steps)
		if again, made, _ := run.Run(term, enough); again != first {
			t.Fatalf("%v: %v in %d steps, %v in %d", p, first, steps, again, made)
		}
	}
	return first, second
}

// P22.3 (T4): any program, with a type or without one, tells the same.
func TestBothTellTheSame(t *testing.T) {
	random := samples.Random(25)
	ended := make(map[int]int)
	for i := range 5000 {
		var p api.Program
		if i%3 == 0 {
			p, _ = samples.Typed(&random, 1+random.Below(100))
		} else {
			p = samples.Scoped(&random, 1+random.Below(60))
		}
		if len(p.Nodes) > api.MaxNodes {
			continue
		}
		p, _, _ = scope.Resolve(p)
		first, second := both(t, p, 4000)
		if first.Kind != api.OutFuel && second.Kind != api.OutFuel {
			ended[first.Kind]++
		}
		// T3: a program that has a type is never stuck.
		if first.Kind == api.OutStuck || second.Kind == api.OutStuck {
			if _, _, e := infer.Infer(p); e == api.OK {
				t.Fatalf("%v is stuck", p)
			}
		}
	}
	for _, kind := range []int{api.OutInt, api.OutBool, api.OutFun, api.OutFault, api.OutStuck} {
		if ended[kind] < 20 {
			t.Errorf("only %d outcomes of kind %d", ended[kind], kind)
		}
	}
}

// P22.3 (T4): programs that make the most of what a handler goes on with.
func TestHandlers(t *testing.T) {
	const ops = "op o : int -> int; op q : int -> bool; "
	for _, c := range []struct {
		s    string
		want api.Outcome
	}{
		{"handle (if do q 1 then 1 else 2) * (if do q 2 then 10 else 20) with q v k -> (k true) + (k false) return r -> r end", out(api.OutInt, 90)},
		{"(handle do o 1 + do o 10 with o v k -> fun s -> (k s) (s + v) return r -> fun s -> (r * 100) + s end) 3", out(api.OutInt, 714)},
		{"let k = handle do o 1 with o v k -> k return r -> r + 1 end in k 4 + k 40", out(api.OutInt, 46)},
		{"handle handle do o 1 + do o 2 with q v k -> 1 return r -> r end with o v k -> k (v + 1) return r -> r end", out(api.OutInt, 5)},
		{"handle handle do o 1 with o v k -> k (do o (v + 1)) return r -> r end with o v k -> k (v + 50) return r -> r end", out(api.OutInt, 52)},
		{"let rec f x = if x == 0 then 0 else do o x + f (x - 1) in handle f 40 with o v k -> k (v * 2) return r -> r end", out(api.OutInt, 1640)},
		{"handle 1 / do o 0 with o v k -> k v return r -> r end", out(api.OutFault, api.FaultZero)},
		{"handle 1 with o v k -> k v return r -> do o r end", out(api.OutStuck, 0)},
		{"let rec w x = w x in w 1", out(api.OutFuel, 0)},
	} {
		if first, second := both(t, build.Program(ops+c.s), api.MaxFuel); first != c.want || second != c.want {
			t.Errorf("%q: %v and %v, want %v", c.s, first, second, c.want)
		}
	}
}
