package driver

import (
	"strings"
	"testing"

	"trammel/agree"
	"trammel/api"
	"trammel/samples"
	"trammel/show"
)

func out(kind, num int) api.Outcome { return api.Outcome{Kind: kind, Num: num} }

const ops = "op o : int -> int; op q : int -> bool; "

// P23.1: a type, and what comes in both ways.
func TestDo(t *testing.T) {
	for _, c := range []struct {
		s    string
		fuel int
		want api.Result
	}{
		{"1 + 2", 100, api.Result{Type: "int", First: out(api.OutInt, 3), Second: out(api.OutInt, 3)}},
		{"1 - 2", 100, api.Result{Type: "int", First: out(api.OutInt, -1), Second: out(api.OutInt, -1)}},
		{"1 < 2", 100, api.Result{Type: "bool", First: out(api.OutBool, 1), Second: out(api.OutBool, 1)}},
		{"fun x -> x", 100, api.Result{Type: "(t0 -<|e0> t0)", First: out(api.OutFun, 0), Second: out(api.OutFun, 0)}},
		{"1 / 0", 100, api.Result{Type: "int", First: out(api.OutFault, api.FaultZero), Second: out(api.OutFault, api.FaultZero)}},
		{"1073741823 * 2", 100, api.Result{Type: "int", First: out(api.OutFault, 0), Second: out(api.OutFault, 0)}},
		{"let rec f x = f x in f 1", 1000, api.Result{Type: "t0", First: out(api.OutFuel, 0), Second: out(api.OutFuel, 0)}},
		{"1", 0, api.Result{Type: "int", First: out(api.OutFuel, 0), Second: out(api.OutFuel, 0)}},
		// One way is over with this fuel, the other is not.
		{"1", 1, api.Result{Type: "int", First: out(api.OutInt, 1), Second: out(api.OutFuel, 0)}},
		{"1", api.MaxFuel, api.Result{Type: "int", First: out(api.OutInt, 1), Second: out(api.OutInt, 1)}},
		{ops + "handle (if do q 1 then 1 else 2) with q v k -> (k true) * 10 + k false return r -> r end", 1000,
			api.Result{Type: "int", First: out(api.OutInt, 12), Second: out(api.OutInt, 12)}},
		{ops + "fun x -> do o (do o x)", 10, api.Result{Type: "(int -<o0|e0> int)", First: out(api.OutFun, 0), Second: out(api.OutFun, 0)}},
	} {
		if got, e := Do(c.s, c.fuel); got != c.want || e != api.OK {
			t.Errorf("Do(%q, %d) = %v, %d, want %v", c.s, c.fuel, got, e, c.want)
		}
	}
}

// P23.1: the first error, and its place.
func TestErrors(t *testing.T) {
	d := "let d = fun x -> fun f -> f x x in fun x -> " + strings.Repeat("d (", 20) + "x" + strings.Repeat(")", 20)
	for _, c := range []struct {
		s    string
		code api.Errno
		at   int
	}{
		{"1 + $", api.ErrParseForm, 4},
		{"1x", api.ErrParseForm, 0},
		{"x \xff", api.ErrParseForm, 2},
		{strings.Repeat(" ", api.MaxText+1), api.ErrParseForm, 0},
		{"", api.ErrParseWant, 0},
		{"(1", api.ErrParseWant, 2},
		{strings.Repeat("(", 40), api.ErrParseDepth, 40},
		{"op a : int -> int; op a : int -> int; x", api.ErrScopeOp, 0},
		{"1 + x", api.ErrScopeName, 4},
		{"1 + do o 1", api.ErrScopeOp, 4},
		{"true + x", api.ErrScopeName, 7},
		{"true + 1", api.ErrInferType, 5},
		{"1 (2 3)", api.ErrInferType, 3},
		{ops + "do o 1", api.ErrInferType, len(ops)},
		{d, api.ErrInferMany, -1},
	} {
		got, e := Do(c.s, 10)
		if c.at < 0 {
			c.at = got.At
		}
		if got != (api.Result{Code: int(c.code), At: c.at}) || e != api.OK {
			t.Errorf("Do(%.30q) = %v, %d, want %d, %d", c.s, got, e, c.code, c.at)
		}
	}
	if got, _ := Do("1"+strings.Repeat("+1", api.MaxNodes/2), 10); got.Code != int(api.ErrParseMany) {
		t.Errorf("%v", got)
	}
}

func TestForm(t *testing.T) {
	for _, s := range []string{"1", "1x"} {
		for _, fuel := range []int{-1, api.MaxFuel + 1, 1 << 62, -1 << 63} {
			if got, e := Do(s, fuel); got != (api.Result{}) || e != api.ErrDriverForm {
				t.Errorf("Do(%q, %d) = %v, %d", s, fuel, got, e)
			}
		}
	}
}

// isOf tells whether an outcome is one that a program of this type may come to.
func isOf(o api.Outcome, text string) bool {
	switch o.Kind {
	case api.OutInt:
		return text == "int"
	case api.OutBool:
		return text == "bool"
	case api.OutFun:
		return strings.HasPrefix(text, "(")
	}
	return text != "" && o.Kind != api.OutStuck
}

// T1 to T4, of whatever text.
func TestAnyText(t *testing.T) {
	random := samples.Random(26)
	ran := 0
	for i := range 4000 {
		var p api.Program
		if i%2 == 0 {
			p, _ = samples.Typed(&random, 1+random.Below(60))
		} else {
			p = samples.Scoped(&random, 1+random.Below(40))
		}
		s, e := show.Print(p)
		if e != api.OK {
			continue
		}
		if i%5 == 0 {
			cut := random.Below(len(s))
			s = s[:cut] + string([]byte{" ()+1xf\xff"[random.Below(8)]}) + s[cut:]
		}
		got, e := Do(s, 2000)
		if e != api.OK {
			t.Fatalf("%q: %d", s, e)
		}
		if got.Code != 0 {
			if got.At < 0 || got.At > len(s) || got != (api.Result{Code: got.Code, At: got.At}) {
				t.Fatalf("%q: %v", s, got)
			}
			continue
		}
		ran++
		if same, e := agree.Same(got.First, got.Second); !same || e != api.OK {
			t.Fatalf("%q: %v", s, got)
		}
		if !isOf(got.First, got.Type) || !isOf(got.Second, got.Type) {
			t.Fatalf("%q: %v", s, got)
		}
	}
	if ran < 1000 {
		t.Errorf("only %d ran", ran)
	}
}
