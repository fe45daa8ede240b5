package match

import (
	"testing"

	"trammel/api"
	"trammel/samples"
	"trammel/subst"
	"trammel/typ"
	"trammel/unify"
)

func of(nodes ...api.TyNode) api.Type { return api.Type{Nodes: nodes} }

func integer() api.Type { return of(api.TyNode{Kind: api.TypeInt}) }

func truth() api.Type { return of(api.TyNode{Kind: api.TypeBool}) }

func variable(v int) api.Type { return of(api.TyNode{Kind: api.TypeVar, Var: v}) }

func row(tail int, counts ...int) api.Row {
	r := api.Row{Tail: tail}
	copy(r.Counts[:], counts)
	return r
}

func fun(a api.Type, r api.Row, b api.Type) api.Type {
	f, e := typ.Fun(a, r, b)
	if e != api.OK {
		panic(e)
	}
	return f
}

func pure(a, b api.Type) api.Type { return fun(a, row(-1), b) }

func TestInstance(t *testing.T) {
	id := pure(variable(1), variable(1))
	for i, c := range []struct {
		general, special api.Type
		want             bool
	}{
		{integer(), integer(), true},
		{integer(), truth(), false},
		{integer(), variable(0), false},
		{integer(), id, false},
		{id, integer(), false},
		{variable(0), integer(), true},
		{variable(0), variable(0), true},
		{variable(0), variable(9), true},
		// A variable of the special type is none of the general one, though it has its number.
		{variable(1), id, true},
		{id, pure(integer(), integer()), true},
		{id, pure(integer(), truth()), false},
		{id, pure(id, id), true},
		{id, pure(id, pure(variable(2), variable(2))), false},
		{id, pure(variable(2), variable(1)), false},
		{pure(variable(1), variable(2)), id, true},
		{pure(variable(1), variable(2)), pure(variable(2), variable(1)), true},
		{pure(integer(), variable(2)), pure(truth(), truth()), false},
		{pure(variable(2), integer()), pure(truth(), truth()), false},
		// Rows.
		{id, fun(integer(), row(-1, 1), integer()), false},
		{id, fun(integer(), row(0), integer()), false},
		{fun(integer(), row(0), integer()), fun(integer(), row(-1), integer()), true},
		{fun(integer(), row(0), integer()), fun(integer(), row(3, 2), integer()), true},
		{fun(integer(), row(0, 1), integer()), fun(integer(), row(3, 2), integer()), true},
		{fun(integer(), row(0, 3), integer()), fun(integer(), row(3, 2), integer()), false},
		{fun(integer(), row(0, 1), integer()), fun(integer(), row(-1, 0, 1), integer()), false},
		{fun(integer(), row(-1, 1), integer()), fun(integer(), row(-1, 1), integer()), true},
		{fun(integer(), row(-1, 1), integer()), fun(integer(), row(-1, 2), integer()), false},
		{fun(integer(), row(-1, 1), integer()), fun(integer(), row(2, 1), integer()), false},
		// One tail is one row, wherever it stands.
		{fun(pureIn(0), row(0, 1), integer()), fun(pureIn(0), row(0, 1), integer()), true},
		{fun(pureIn(0), row(0, 1), integer()), fun(pureIn(5), row(5, 1), integer()), true},
		{fun(pureIn(0), row(0, 1), integer()), fun(pureIn(0), row(1, 1), integer()), false},
		{fun(pureIn(0), row(0, 1), integer()), fun(pureIn(0), row(0, 2), integer()), false},
		{fun(pureIn(0), row(1), integer()), fun(pureIn(0), row(0), integer()), true},
		{fun(variable(0), row(0), integer()), fun(integer(), row(-1, 32, 32, 32, 32), integer()), true},
	} {
		if got, e := Instance(c.general, c.special); got != c.want || e != api.OK {
			t.Errorf("%d: %v, %d", i, got, e)
		}
	}
}

// pureIn is a function's type whose row is a tail.
func pureIn(tail int) api.Type { return fun(integer(), row(tail), integer()) }

func TestEqual(t *testing.T) {
	for i, c := range []struct {
		a, b api.Type
		want bool
	}{
		{integer(), integer(), true},
		{integer(), truth(), false},
		{variable(3), variable(0), true},
		{variable(3), integer(), false},
		{pure(variable(3), variable(0)), pure(variable(0), variable(3)), true},
		{pure(variable(3), variable(0)), pure(variable(1), variable(1)), false},
		{pureIn(4), pureIn(7), true},
		{pureIn(4), pureIn(-1), false},
		{fun(pureIn(4), row(4), variable(4)), fun(pureIn(2), row(2), variable(9)), true},
		{fun(pureIn(4), row(4), variable(4)), fun(pureIn(2), row(3), variable(9)), false},
		{fun(integer(), row(1, 1), integer()), fun(integer(), row(1, 2), integer()), false},
	} {
		if got, e := Equal(c.a, c.b); got != c.want || e != api.OK {
			t.Errorf("%d: %v, %d", i, got, e)
		}
	}
}

func TestForm(t *testing.T) {
	for _, bad := range []api.Type{{}, of(api.TyNode{Kind: 4}), of(api.TyNode{Kind: api.TypeVar, Var: -1}),
		of(api.TyNode{}, api.TyNode{}), of(api.TyNode{A: 1})} {
		for _, call := range []func(a, b api.Type) (bool, api.Errno){Instance, Equal} {
			if got, e := call(bad, integer()); got || e != api.ErrMatchForm {
				t.Errorf("%v: %v, %d", bad, got, e)
			}
			if got, e := call(integer(), bad); got || e != api.ErrMatchForm {
				t.Errorf("%v: %v, %d", bad, got, e)
			}
		}
	}
}

// What a type becomes under binds is an instance of it, and instances of each other are equal.
func TestUnderBinds(t *testing.T) {
	random := samples.Random(11)
	shape := samples.Shape{Vars: 4, Tails: 4, Counts: 3}
	both := 0
	for range 8000 {
		shape.Size = 1 + random.Below(9)
		general := samples.Type(&random, shape)
		var bs []api.Bind
		for v := range 4 {
			shape.Size = 1 + random.Below(5)
			bs = append(bs, api.Bind{Var: v, Type: samples.Type(&random, shape)})
			bs = append(bs, api.Bind{Var: v, IsRow: true, Row: samples.Row(&random, shape)})
		}
		special, e := subst.Type(bs, general)
		if e != api.OK {
			t.Fatal(e)
		}
		if ok, e := Instance(general, special); !ok || e != api.OK {
			t.Fatalf("%v of %v: %d", special, general, e)
		}
		other := samples.Type(&random, shape)
		one, _ := Instance(general, other)
		two, _ := Instance(other, general)
		equal, _ := Equal(general, other)
		if equal != (one && two) {
			t.Fatalf("%v, %v: %v, %v, %v", general, other, one, two, equal)
		}
		if one {
			both++
		}
	}
	if both < 100 {
		t.Errorf("only %d instances", both)
	}
}

// What makes two types one makes each of them an instance, of which each common instance is one.
func TestMostGeneral(t *testing.T) {
	random := samples.Random(12)
	shape := samples.Shape{Vars: 3, Tails: 3, Counts: 2}
	found := 0
	for range 20000 {
		shape.Size = 1 + random.Below(7)
		a, b := samples.Type(&random, shape), samples.Type(&random, shape)
		binds, e := unify.Unify(a, b, 3)
		var bs []api.Bind
		for v := range 3 {
			small := samples.Shape{Size: 1 + random.Below(3), Counts: 2}
			bs = append(bs, api.Bind{Var: v, Type: samples.Type(&random, small)})
			bs = append(bs, api.Bind{Var: v, IsRow: true, Row: samples.Row(&random, small)})
		}
		one, _ := subst.Type(bs, a)
		two, _ := subst.Type(bs, b)
		if same, _ := Equal(one, two); !same {
			continue
		}
		found++
		if e != api.OK {
			t.Fatalf("%v and %v can be one: %v; %d", a, b, bs, e)
		}
		general, _ := subst.Type(binds, a)
		if ok, _ := Instance(general, one); !ok {
			t.Fatalf("%v is no instance of %v", one, general)
		}
	}
	if found < 100 {
		t.Errorf("only %d pairs", found)
	}
}
