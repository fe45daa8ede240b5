package subst

import (
	"reflect"
	"slices"
	"testing"

	"trammel/api"
	"trammel/build"
	"trammel/samples"
	"trammel/typ"
)

func bind(v int, t api.Type) api.Bind { return api.Bind{Var: v, Type: t} }

func tail(v int, r api.Row) api.Bind { return api.Bind{Var: v, IsRow: true, Row: r} }

func TestType(t *testing.T) {
	idle := build.Fun(build.Var(1), build.Row(1, 1), build.Var(2))
	bs := []api.Bind{
		bind(1, build.Var(2)),
		bind(2, build.Fun(build.Int(), build.Row(1), build.Var(1))),
		bind(1, build.Int()),
		tail(1, build.Row(2, 0, 3)),
		tail(2, build.Row(-1, 5)),
		tail(1, build.Row(-1)),
	}
	for _, c := range []struct {
		bs   []api.Bind
		t    api.Type
		want api.Type
	}{
		{nil, idle, idle},
		{bs, build.Int(), build.Int()},
		{bs, build.Var(1), build.Var(2)},
		{bs, build.Var(3), build.Var(3)},
		{bs, build.Var(2), build.Fun(build.Int(), build.Row(1), build.Var(1))},
		// At once: what is put is not looked at again, and the first bind counts.
		{bs, idle, build.Fun(build.Var(2), build.Row(2, 1, 3), build.Fun(build.Int(), build.Row(1), build.Var(1)))},
		{bs, build.Fun(build.Var(3), build.Row(2, 1), build.Var(3)), build.Fun(build.Var(3), build.Row(-1, 6), build.Var(3))},
		{bs, build.Fun(idle, build.Row(-1), build.Var(1)),
			build.Fun(build.Fun(build.Var(2), build.Row(2, 1, 3), build.Fun(build.Int(), build.Row(1), build.Var(1))), build.Row(-1), build.Var(2))},
		// The sorts have numbers of their own.
		{[]api.Bind{tail(1, build.Row(-1))}, build.Var(1), build.Var(1)},
		{[]api.Bind{bind(1, build.Int())}, build.Fun(build.Var(0), build.Row(1), build.Var(0)), build.Fun(build.Var(0), build.Row(1), build.Var(0))},
	} {
		before := api.Type{Nodes: slices.Clone(c.t.Nodes)}
		got, e := Type(c.bs, c.t)
		if e != api.OK || !reflect.DeepEqual(got, c.want) || !reflect.DeepEqual(c.t, before) {
			t.Errorf("Type of %v = %v, %d, want %v", c.t, got, e, c.want)
		}
	}
	got, _ := Type(nil, idle)
	got.Nodes[0].Var = 77
	alone, _ := Type(bs, build.Var(2))
	alone.Nodes[0].Kind = api.TypeBool
	if idle.Nodes[0].Var != 1 || bs[1].Type.Nodes[0].Kind != api.TypeInt {
		t.Error("what is answered shares memory with what is handed in")
	}
}

func TestRow(t *testing.T) {
	bs := []api.Bind{tail(1, build.Row(2, 0, 3)), tail(2, build.Row(-1, 5)), tail(3, build.Row(3, 1)), tail(1, build.Row(-1)), bind(4, build.Int())}
	for _, c := range []struct{ r, want api.Row }{
		{build.Row(-1, 1), build.Row(-1, 1)},
		{build.Row(1, 1, 1), build.Row(2, 1, 4)},
		{build.Row(2, 27), build.Row(-1, 32)},
		{build.Row(3, 1), build.Row(3, 2)},
		{build.Row(4, 1), build.Row(4, 1)},
	} {
		if got, e := Row(bs, c.r); got != c.want || e != api.OK {
			t.Errorf("Row of %v = %v, %d, want %v", c.r, got, e, c.want)
		}
	}
	if got, e := Row(bs, build.Row(2, 28)); got != (api.Row{}) || e != api.ErrSubstForm {
		t.Errorf("a count too great: %v, %d", got, e)
	}
}

// wide is a function's type of so many operands, each a variable from 0 on.
func wide(t *testing.T, operands int) api.Type {
	made := build.Int()
	for v := range operands {
		made = build.Fun(build.Var(v), build.Row(v), made)
	}
	return made
}

func TestLimits(t *testing.T) {
	// 127 operands are 255 nodes: no variable may become more than one.
	greatest := wide(t, 127)
	if got, e := Type([]api.Bind{bind(3, build.Var(9))}, greatest); e != api.OK || len(got.Nodes) != 255 {
		t.Errorf("%d nodes, %d", len(got.Nodes), e)
	}
	two := build.Fun(build.Int(), build.Row(-1), build.Int())
	if got, e := Type([]api.Bind{bind(3, two)}, greatest); got.Nodes != nil || e != api.ErrSubstForm {
		t.Errorf("%d nodes, %d", len(got.Nodes), e)
	}
	if got, e := Type([]api.Bind{bind(3, two)}, wide(t, 126)); e != api.OK || len(got.Nodes) != 255 || !typ.May(got) {
		t.Errorf("%d nodes, %d", len(got.Nodes), e)
	}
	var all []api.Bind
	for v := range 127 {
		all = append(all, bind(v, greatest))
	}
	if got, e := Type(all, greatest); got.Nodes != nil || e != api.ErrSubstForm {
		t.Errorf("%d nodes, %d", len(got.Nodes), e)
	}
	full := build.Fun(build.Int(), build.Row(5, 0, 0, 32), build.Int())
	if got, e := Type([]api.Bind{tail(5, build.Row(6, 32))}, full); e != api.OK || got.Nodes[2].Row != build.Row(6, 32, 0, 32) {
		t.Errorf("%v, %d", got, e)
	}
	if got, e := Type([]api.Bind{tail(5, build.Row(6, 0, 0, 1))}, full); got.Nodes != nil || e != api.ErrSubstForm {
		t.Errorf("%v, %d", got, e)
	}
	if got, e := Type([]api.Bind{bind(0, full), bind(1, full), tail(0, build.Row(-1, 1))}, wide(t, 2)); e != api.OK || !typ.May(got) {
		t.Errorf("%v, %d", got, e)
	}
}

func TestForm(t *testing.T) {
	badRow := bind(0, build.Int())
	badRow.Row.Tail = -1
	badType := tail(0, build.Row(-1))
	badType.Type = build.Int()
	badTail := tail(0, build.Row(-2))
	badCount := tail(0, build.Row(-1, 33))
	for i, bs := range [][]api.Bind{
		{bind(-1, build.Int())},
		{bind(api.MaxVars, build.Int())},
		{tail(-1, build.Row(-1))},
		{tail(api.MaxVars, build.Row(-1))},
		{bind(0, api.Type{})},
		{bind(0, build.Of(api.TyNode{Kind: 9}))},
		{badRow}, {badType}, {badTail}, {badCount},
		{bind(0, build.Int()), bind(0, api.Type{})},
		slices.Repeat([]api.Bind{bind(0, build.Int())}, api.MaxVars+1),
	} {
		if got, e := Type(bs, build.Int()); got.Nodes != nil || e != api.ErrSubstForm {
			t.Errorf("%d: %v, %d", i, got, e)
		}
		if got, e := Row(bs, build.Row(-1)); got != (api.Row{}) || e != api.ErrSubstForm {
			t.Errorf("%d: %v, %d", i, got, e)
		}
	}
	if got, e := Type(nil, api.Type{}); got.Nodes != nil || e != api.ErrSubstForm {
		t.Errorf("%v, %d", got, e)
	}
	if got, e := Row(nil, build.Row(api.MaxVars)); got != (api.Row{}) || e != api.ErrSubstForm {
		t.Errorf("%v, %d", got, e)
	}
	most := slices.Repeat([]api.Bind{bind(0, build.Int()), tail(0, build.Row(-1))}, api.MaxVars/2)
	if got, e := Type(most, build.Var(0)); e != api.OK || !reflect.DeepEqual(got, build.Int()) {
		t.Errorf("%v, %d", got, e)
	}
}

// naive puts binds in by making each function anew.
func naive(t *testing.T, bs []api.Bind, nodes []api.TyNode, at int) api.Type {
	n := nodes[at]
	first := func(isRow bool, v int) *api.Bind {
		for i := range bs {
			if bs[i].IsRow == isRow && bs[i].Var == v {
				return &bs[i]
			}
		}
		return nil
	}
	switch n.Kind {
	case api.TypeVar:
		if b := first(false, n.Var); b != nil {
			return b.Type
		}
	case api.TypeFun:
		r := n.Row
		if b := first(true, r.Tail); b != nil && r.Tail >= 0 {
			r = b.Row
			for op := range r.Counts {
				r.Counts[op] += n.Row.Counts[op]
			}
		}
		return build.Fun(naive(t, bs, nodes, n.A), r, naive(t, bs, nodes, n.B))
	}
	return build.Of(n)
}

func TestAnyType(t *testing.T) {
	random := samples.Random(9)
	shape := samples.Shape{Vars: 5, Tails: 5, Counts: 4}
	for range 3000 {
		var bs []api.Bind
		for range random.Below(8) {
			shape.Size = 1 + random.Below(8)
			if random.Below(2) == 0 {
				bs = append(bs, bind(random.Below(5), samples.Type(&random, shape)))
			} else {
				bs = append(bs, tail(random.Below(5), samples.Row(&random, shape)))
			}
		}
		shape.Size = 1 + random.Below(30)
		made := samples.Type(&random, shape)
		want := naive(t, bs, made.Nodes, len(made.Nodes)-1)
		if got, e := Type(bs, made); e != api.OK || !reflect.DeepEqual(got, want) {
			t.Fatalf("Type(%v, %v) = %v, %d, want %v", bs, made, got, e, want)
		}
	}
}
