package subst

import (
	"reflect"
	"slices"
	"testing"

	"trammel/api"
	"trammel/samples"
	"trammel/typ"
)

func of(nodes ...api.TyNode) api.Type { return api.Type{Nodes: nodes} }

func integer() api.Type { return of(api.TyNode{Kind: api.TypeInt}) }

func variable(v int) api.Type { return of(api.TyNode{Kind: api.TypeVar, Var: v}) }

func row(tail int, counts ...int) api.Row {
	r := api.Row{Tail: tail}
	copy(r.Counts[:], counts)
	return r
}

func fun(t *testing.T, a api.Type, r api.Row, b api.Type) api.Type {
	t.Helper()
	f, e := typ.Fun(a, r, b)
	if e != api.OK {
		t.Fatal(e)
	}
	return f
}

func bind(v int, t api.Type) api.Bind { return api.Bind{Var: v, Type: t} }

func tail(v int, r api.Row) api.Bind { return api.Bind{Var: v, IsRow: true, Row: r} }

func TestType(t *testing.T) {
	idle := fun(t, variable(1), row(1, 1), variable(2))
	bs := []api.Bind{
		bind(1, variable(2)),
		bind(2, fun(t, integer(), row(1), variable(1))),
		bind(1, integer()),
		tail(1, row(2, 0, 3)),
		tail(2, row(-1, 5)),
		tail(1, row(-1)),
	}
	for _, c := range []struct {
		bs   []api.Bind
		t    api.Type
		want api.Type
	}{
		{nil, idle, idle},
		{bs, integer(), integer()},
		{bs, variable(1), variable(2)},
		{bs, variable(3), variable(3)},
		{bs, variable(2), fun(t, integer(), row(1), variable(1))},
		// At once: what is put is not looked at again, and the first bind counts.
		{bs, idle, fun(t, variable(2), row(2, 1, 3), fun(t, integer(), row(1), variable(1)))},
		{bs, fun(t, variable(3), row(2, 1), variable(3)), fun(t, variable(3), row(-1, 6), variable(3))},
		{bs, fun(t, idle, row(-1), variable(1)),
			fun(t, fun(t, variable(2), row(2, 1, 3), fun(t, integer(), row(1), variable(1))), row(-1), variable(2))},
		// The sorts have numbers of their own.
		{[]api.Bind{tail(1, row(-1))}, variable(1), variable(1)},
		{[]api.Bind{bind(1, integer())}, fun(t, variable(0), row(1), variable(0)), fun(t, variable(0), row(1), variable(0))},
	} {
		before := api.Type{Nodes: slices.Clone(c.t.Nodes)}
		got, e := Type(c.bs, c.t)
		if e != api.OK || !reflect.DeepEqual(got, c.want) || !reflect.DeepEqual(c.t, before) {
			t.Errorf("Type of %v = %v, %d, want %v", c.t, got, e, c.want)
		}
	}
	got, _ := Type(nil, idle)
	got.Nodes[0].Var = 77
	alone, _ := Type(bs, variable(2))
	alone.Nodes[0].Kind = api.TypeBool
	if idle.Nodes[0].Var != 1 || bs[1].Type.Nodes[0].Kind != api.TypeInt {
		t.Error("what is answered shares memory with what is handed in")
	}
}

func TestRow(t *testing.T) {
	bs := []api.Bind{tail(1, row(2, 0, 3)), tail(2, row(-1, 5)), tail(3, row(3, 1)), tail(1, row(-1)), bind(4, integer())}
	for _, c := range []struct{ r, want api.Row }{
		{row(-1, 1), row(-1, 1)},
		{row(1, 1, 1), row(2, 1, 4)},
		{row(2, 27), row(-1, 32)},
		{row(3, 1), row(3, 2)},
		{row(4, 1), row(4, 1)},
	} {
		if got, e := Row(bs, c.r); got != c.want || e != api.OK {
			t.Errorf("Row of %v = %v, %d, want %v", c.r, got, e, c.want)
		}
	}
	if got, e := Row(bs, row(2, 28)); got != (api.Row{}) || e != api.ErrSubstForm {
		t.Errorf("a count too great: %v, %d", got, e)
	}
}

// wide is a function's type of so many operands, each a variable from 0 on.
func wide(t *testing.T, operands int) api.Type {
	made := integer()
	for v := range operands {
		made = fun(t, variable(v), row(v), made)
	}
	return made
}

func TestLimits(t *testing.T) {
	// 127 operands are 255 nodes: no variable may become more than one.
	greatest := wide(t, 127)
	if got, e := Type([]api.Bind{bind(3, variable(9))}, greatest); e != api.OK || len(got.Nodes) != 255 {
		t.Errorf("%d nodes, %d", len(got.Nodes), e)
	}
	two := fun(t, integer(), row(-1), integer())
	if got, e := Type([]api.Bind{bind(3, two)}, greatest); got.Nodes != nil || e != api.ErrSubstForm {
		t.Errorf("%d nodes, %d", len(got.Nodes), e)
	}
	if got, e := Type([]api.Bind{bind(3, two)}, wide(t, 126)); e != api.OK || len(got.Nodes) != 255 || !typ.May(got) {
		t.Errorf("%d nodes, %d", len(got.Nodes), e)
	}
	var all []api.Bind
	for v := range 127 {
		all = append(all, bind(v, greatest))
	}
	if got, e := Type(all, greatest); got.Nodes != nil || e != api.ErrSubstForm {
		t.Errorf("%d nodes, %d", len(got.Nodes), e)
	}
	full := fun(t, integer(), row(5, 0, 0, 32), integer())
	if got, e := Type([]api.Bind{tail(5, row(6, 32))}, full); e != api.OK || got.Nodes[2].Row != row(6, 32, 0, 32) {
		t.Errorf("%v, %d", got, e)
	}
	if got, e := Type([]api.Bind{tail(5, row(6, 0, 0, 1))}, full); got.Nodes != nil || e != api.ErrSubstForm {
		t.Errorf("%v, %d", got, e)
	}
	if got, e := Type([]api.Bind{bind(0, full), bind(1, full), tail(0, row(-1, 1))}, wide(t, 2)); e != api.OK || !typ.May(got) {
		t.Errorf("%v, %d", got, e)
	}
}

func TestForm(t *testing.T) {
	badRow := bind(0, integer())
	badRow.Row.Tail = -1
	badType := tail(0, row(-1))
	badType.Type = integer()
	badTail := tail(0, row(-2))
	badCount := tail(0, row(-1, 33))
	for i, bs := range [][]api.Bind{
		{bind(-1, integer())},
		{bind(api.MaxVars, integer())},
		{tail(-1, row(-1))},
		{tail(api.MaxVars, row(-1))},
		{bind(0, api.Type{})},
		{bind(0, of(api.TyNode{Kind: 9}))},
		{badRow}, {badType}, {badTail}, {badCount},
		{bind(0, integer()), bind(0, api.Type{})},
		slices.Repeat([]api.Bind{bind(0, integer())}, api.MaxVars+1),
	} {
		if got, e := Type(bs, integer()); got.Nodes != nil || e != api.ErrSubstForm {
			t.Errorf("%d: %v, %d", i, got, e)
		}
		if got, e := Row(bs, row(-1)); got != (api.Row{}) || e != api.ErrSubstForm {
			t.Errorf("%d: %v, %d", i, got, e)
		}
	}
	if got, e := Type(nil, api.Type{}); got.Nodes != nil || e != api.ErrSubstForm {
		t.Errorf("%v, %d", got, e)
	}
	if got, e := Row(nil, row(api.MaxVars)); got != (api.Row{}) || e != api.ErrSubstForm {
		t.Errorf("%v, %d", got, e)
	}
	most := slices.Repeat([]api.Bind{bind(0, integer()), tail(0, row(-1))}, api.MaxVars/2)
	if got, e := Type(most, variable(0)); e != api.OK || !reflect.DeepEqual(got, integer()) {
		t.Errorf("%v, %d", got, e)
	}
}

// naive puts binds in by making each function anew.
func naive(t *testing.T, bs []api.Bind, nodes []api.TyNode, at int) api.Type {
	n := nodes[at]
	first := func(isRow bool, v int) *api.Bind {
		for i := range bs {
			if bs[i].IsRow == isRow && bs[i].Var == v {
				return &bs[i]
			}
		}
		return nil
	}
	switch n.Kind {
	case api.TypeVar:
		if b := first(false, n.Var); b != nil {
			return b.Type
		}
	case api.TypeFun:
		r := n.Row
		if b := first(true, r.Tail); b != nil && r.Tail >= 0 {
			r = b.Row
			for op := range r.Counts {
				r.Counts[op] += n.Row.Counts[op]
			}
		}
		return fun(t, naive(t, bs, nodes, n.A), r, naive(t, bs, nodes, n.B))
	}
	return of(n)
}

func TestAnyType(t *testing.T) {
	random := samples.Random(9)
	shape := samples.Shape{Vars: 5, Tails: 5, Counts: 4}
	for range 3000 {
		var bs []api.Bind
		for range random.Below(8) {
			shape.Size = 1 + random.Below(8)
			if random.Below(2) == 0 {
				bs = append(bs, bind(random.Below(5), samples.Type(&random, shape)))
			} else {
				bs = append(bs, tail(random.Below(5), samples.Row(&random, shape)))
			}
		}
		shape.Size = 1 + random.Below(30)
		made := samples.Type(&random, shape)
		want := naive(t, bs, made.Nodes, len(made.Nodes)-1)
		if got, e := Type(bs, made); e != api.OK || !reflect.DeepEqual(got, want) {
			t.Fatalf("Type(%v, %v) = %v, %d, want %v", bs, made, got, e, want)
		}
	}
}
