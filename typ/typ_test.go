package typ

import (
	"fmt"
	"reflect"
	"slices"
	"strings"
	"testing"

	"trammel/api"
	"trammel/samples"
)

var (
	integer = api.TyNode{Kind: api.TypeInt}
	truth   = api.TyNode{Kind: api.TypeBool}
)

func variable(v int) api.TyNode { return api.TyNode{Kind: api.TypeVar, Var: v} }

func row(tail int, counts ...int) api.Row {
	r := api.Row{Tail: tail}
	copy(r.Counts[:], counts)
	return r
}

func function(a, b int, r api.Row) api.TyNode {
	return api.TyNode{Kind: api.TypeFun, A: a, B: b, Row: r}
}

func of(nodes ...api.TyNode) api.Type { return api.Type{Nodes: nodes} }

// chain is a type of so many functions in one another.
func chain(functions int) api.Type {
	t := of(integer)
	for range functions {
		last := len(t.Nodes) - 1
		t.Nodes = append(t.Nodes, truth, function(last, last+1, row(-1)))
	}
	return t
}

// P7.1: what may be, and each thing that may not.
func TestMay(t *testing.T) {
	for _, good := range []api.Type{
		of(integer), of(truth), of(variable(0)), of(variable(api.MaxVars - 1)),
		of(integer, truth, function(0, 1, row(-1))),
		of(integer, variable(1), truth, function(1, 2, row(api.MaxVars-1, 0, 0, 0, api.MaxCount)), function(0, 3, row(0))),
		of(integer, variable(1), function(0, 1, row(-1)), truth, function(2, 3, row(-1))),
		chain(127),
	} {
		if !May(good) {
			t.Errorf("%v may not be", good)
		}
	}
	fun := of(integer, truth, function(0, 1, row(-1)))
	with := func(change func(ns []api.TyNode)) api.Type {
		ns := slices.Clone(fun.Nodes)
		change(ns)
		return api.Type{Nodes: ns}
	}
	for i, bad := range []api.Type{
		{},
		of(variable(-1)),
		of(variable(api.MaxVars)),
		of(api.TyNode{Kind: -1}),
		of(api.TyNode{Kind: 4}),
		of(integer, truth),
		of(function(0, 0, row(-1))),
		of(integer, function(0, 0, row(-1))),
		with(func(ns []api.TyNode) { ns[0].Var = 1 }),
		with(func(ns []api.TyNode) { ns[0].A = 1 }),
		with(func(ns []api.TyNode) { ns[0].B = 1 }),
		with(func(ns []api.TyNode) { ns[0].Row.Tail = -1 }),
		with(func(ns []api.TyNode) { ns[1].Row.Counts[3] = 1 }),
		with(func(ns []api.TyNode) { ns[1] = variable(3); ns[1].Row.Tail = -1 }),
		with(func(ns []api.TyNode) { ns[1] = variable(3); ns[1].A = 1 }),
		with(func(ns []api.TyNode) { ns[2].Var = 1 }),
		with(func(ns []api.TyNode) { ns[2].A = 1 }),
		with(func(ns []api.TyNode) { ns[2].B = 0 }),
		with(func(ns []api.TyNode) { ns[2].B = 2 }),
		with(func(ns []api.TyNode) { ns[2].A = -1 }),
		with(func(ns []api.TyNode) { ns[2].Row.Tail = -2 }),
		with(func(ns []api.TyNode) { ns[2].Row.Tail = api.MaxVars }),
		with(func(ns []api.TyNode) { ns[2].Row.Counts[1] = -1 }),
		with(func(ns []api.TyNode) { ns[2].Row.Counts[1] = api.MaxCount + 1 }),
		chain(128),
	} {
		if May(bad) {
			t.Errorf("%d: %v may be", i, bad)
		}
		if s, e := Text(bad); s != "" || e != api.ErrTypForm {
			t.Errorf("%d: Text %q, %d", i, s, e)
		}
		if ts, rs, e := Vars(bad); ts != nil || rs != nil || e != api.ErrTypForm {
			t.Errorf("%d: Vars %v, %v, %d", i, ts, rs, e)
		}
		for _, c := range []struct{ a, b api.Type }{{bad, of(integer)}, {of(integer), bad}} {
			if f, e := Fun(c.a, row(-1), c.b); f.Nodes != nil || e != api.ErrTypForm {
				t.Errorf("%d: Fun %v, %d", i, f, e)
			}
		}
	}
}

// P7.2: texts and variables.
func TestText(t *testing.T) {
	for _, c := range []struct {
		t     api.Type
		text  string
		types []int
		tails []int
	}{
		{of(integer), "int", nil, nil},
		{of(truth), "bool", nil, nil},
		{of(variable(9)), "t0", []int{9}, nil},
		{of(integer, truth, function(0, 1, row(-1))), "(int -<> bool)", nil, nil},
		{of(integer, truth, function(0, 1, row(7))), "(int -<|e0> bool)", nil, []int{7}},
		{of(integer, truth, function(0, 1, row(7, 1, 0, 2, 3))), "(int -<o0,o2,o2,o3,o3,o3|e0> bool)", nil, []int{7}},
		{of(integer, truth, function(0, 1, row(-1, 0, 1))), "(int -<o1> bool)", nil, nil},
		{of(variable(5), variable(2), variable(5), function(1, 2, row(8)), function(0, 3, row(4))),
			"(t0 -<|e0> (t1 -<|e1> t0))", []int{5, 2}, []int{4, 8}},
		{of(variable(5), variable(2), function(0, 1, row(8)), variable(2), function(2, 3, row(4))),
			"((t0 -<|e0> t1) -<|e1> t1)", []int{5, 2}, []int{8, 4}},
		{of(variable(1), variable(0), function(0, 1, row(3)), variable(2), variable(1), function(3, 4, row(2)), function(2, 5, row(3))),
			"((t0 -<|e0> t1) -<|e0> (t2 -<|e1> t0))", []int{1, 0, 2}, []int{3, 2}},
	} {
		text, e := Text(c.t)
		if text != c.text || e != api.OK {
			t.Errorf("Text(%v) = %q, %d, want %q", c.t, text, e, c.text)
		}
		types, tails, e := Vars(c.t)
		if !slices.Equal(types, c.types) || !slices.Equal(tails, c.tails) || e != api.OK {
			t.Errorf("Vars(%v) = %v, %v, %d", c.t, types, tails, e)
		}
	}
	if s, e := Text(chain(127)); e != api.OK || !strings.HasPrefix(s, strings.Repeat("(", 127)+"int -<> bool)") {
		t.Errorf("%q, %d", s, e)
	}
}

// P7.3: functions.
func TestFun(t *testing.T) {
	a := of(integer, variable(3), function(0, 1, row(2, 1)))
	got, e := Fun(a, row(5, 0, 2), a)
	want := of(integer, variable(3), function(0, 1, row(2, 1)), integer, variable(3), function(3, 4, row(2, 1)),
		function(2, 5, row(5, 0, 2)))
	if e != api.OK || !reflect.DeepEqual(got, want) {
		t.Errorf("%v, %d", got, e)
	}
	got.Nodes[1].Var = 9
	if a.Nodes[1].Var != 3 {
		t.Error("what is answered shares memory with what is handed in")
	}
	if got, e := Fun(chain(126), row(-1), of(integer)); e != api.OK || len(got.Nodes) != 255 || !May(got) {
		t.Errorf("%d nodes, %d", len(got.Nodes), e)
	}
	for _, c := range []struct {
		a, b api.Type
		r    api.Row
	}{
		{chain(127), of(integer), row(-1)},
		{of(integer), chain(127), row(-1)},
		{chain(100), chain(100), row(-1)},
		{of(integer), of(integer), row(-2)},
		{of(integer), of(integer), row(api.MaxVars)},
		{of(integer), of(integer), row(0, 33)},
		{of(integer), of(integer), row(0, -1)},
	} {
		if got, e := Fun(c.a, c.r, c.b); got.Nodes != nil || e != api.ErrTypForm {
			t.Errorf("%v, %d", got, e)
		}
	}
}

// read tells the type that a text tells, with the numbers that it has.
func read(s string) (api.Type, string) {
	var v int
	switch {
	case strings.HasPrefix(s, "int"):
		return of(integer), s[3:]
	case strings.HasPrefix(s, "bool"):
		return of(truth), s[4:]
	case s[0] == 't':
		end := len(s) - len(strings.TrimLeft(s[1:], "0123456789"))
		fmt.Sscan(s[1:end], &v)
		return of(variable(v)), s[end:]
	}
	a, s := read(s[1:])
	r := row(-1)
	inside, s, _ := strings.Cut(s[3:], ">")
	ops, tail, has := strings.Cut(inside, "|e")
	if has {
		fmt.Sscan(tail, &r.Tail)
	}
	for _, op := range strings.Split(ops, ",") {
		if op != "" {
			r.Counts[op[1]-'0']++
		}
	}
	b, s := read(s[1:])
	f, _ := Fun(a, r, b)
	return f, s[1:]
}

// A text tells all of a type but what its variables are called.
func TestTextsTellTypes(t *testing.T) {
	random := samples.Random(7)
	for range 3000 {
		made := samples.Type(&random, samples.Shape{Size: 1 + random.Below(60), Vars: 6, Tails: 6, Counts: 4})
		if !May(made) {
			t.Fatalf("%v may not be", made)
		}
		text, e := Text(made)
		if e != api.OK {
			t.Fatal(e)
		}
		again, rest := read(text)
		if twice, e := Text(again); rest != "" || twice != text || e != api.OK {
			t.Fatalf("%q is read as %q, %d", text, twice, e)
		}
		types, tails, _ := Vars(made)
		newTypes, newTails, _ := Vars(again)
		if len(types) != len(newTypes) || len(tails) != len(newTails) {
			t.Fatalf("%v has %v, %v, %v has %v, %v", made, types, tails, again, newTypes, newTails)
		}
		for i, n := range again.Nodes {
			if n.Kind == api.TypeVar {
				n.Var = types[n.Var]
			}
			if n.Kind == api.TypeFun && n.Row.Tail >= 0 {
				n.Row.Tail = tails[n.Row.Tail]
			}
			again.Nodes[i] = n
		}
		for i := range newTypes {
			if newTypes[i] != i {
				t.Fatalf("%q does not count from 0", text)
			}
		}
		if !reflect.DeepEqual(made, again) {
			t.Fatalf("%v is %v", made, again)
		}
	}
}
