package match

import (
	"testing"

	"trammel/api"
	"trammel/build"
	"trammel/samples"
	"trammel/subst"
	"trammel/unify"
)

func TestInstance(t *testing.T) {
	id := build.Pure(build.Var(1), build.Var(1))
	for i, c := range []struct {
		general, special api.Type
		want             bool
	}{
		{build.Int(), build.Int(), true},
		{build.Int(), build.Bool(), false},
		{build.Int(), build.Var(0), false},
		{build.Int(), id, false},
		{id, build.Int(), false},
		{build.Var(0), build.Int(), true},
		{build.Var(0), build.Var(0), true},
		{build.Var(0), build.Var(9), true},
		// A variable of the special type is none of the general one, though it has its number.
		{build.Var(1), id, true},
		{id, build.Pure(build.Int(), build.Int()), true},
		{id, build.Pure(build.Int(), build.Bool()), false},
		{id, build.Pure(id, id), true},
		{id, build.Pure(id, build.Pure(build.Var(2), build.Var(2))), false},
		{id, build.Pure(build.Var(2), build.Var(1)), false},
		{build.Pure(build.Var(1), build.Var(2)), id, true},
		{build.Pure(build.Var(1), build.Var(2)), build.Pure(build.Var(2), build.Var(1)), true},
		{build.Pure(build.Int(), build.Var(2)), build.Pure(build.Bool(), build.Bool()), false},
		{build.Pure(build.Var(2), build.Int()), build.Pure(build.Bool(), build.Bool()), false},
		// Rows.
		{id, build.Fun(build.Int(), build.Row(-1, 1), build.Int()), false},
		{id, build.Fun(build.Int(), build.Row(0), build.Int()), false},
		{build.Fun(build.Int(), build.Row(0), build.Int()), build.Fun(build.Int(), build.Row(-1), build.Int()), true},
		{build.Fun(build.Int(), build.Row(0), build.Int()), build.Fun(build.Int(), build.Row(3, 2), build.Int()), true},
		{build.Fun(build.Int(), build.Row(0, 1), build.Int()), build.Fun(build.Int(), build.Row(3, 2), build.Int()), true},
		{build.Fun(build.Int(), build.Row(0, 3), build.Int()), build.Fun(build.Int(), build.Row(3, 2), build.Int()), false},
		{build.Fun(build.Int(), build.Row(0, 1), build.Int()), build.Fun(build.Int(), build.Row(-1, 0, 1), build.Int()), false},
		{build.Fun(build.Int(), build.Row(-1, 1), build.Int()), build.Fun(build.Int(), build.Row(-1, 1), build.Int()), true},
		{build.Fun(build.Int(), build.Row(-1, 1), build.Int()), build.Fun(build.Int(), build.Row(-1, 2), build.Int()), false},
		{build.Fun(build.Int(), build.Row(-1, 1), build.Int()), build.Fun(build.Int(), build.Row(2, 1), build.Int()), false},
		// One tail is one row, wherever it stands.
		{build.Fun(pureIn(0), build.Row(0, 1), build.Int()), build.Fun(pureIn(0), build.Row(0, 1), build.Int()), true},
		{build.Fun(pureIn(0), build.Row(0, 1), build.Int()), build.Fun(pureIn(5), build.Row(5, 1), build.Int()), true},
		{build.Fun(pureIn(0), build.Row(0, 1), build.Int()), build.Fun(pureIn(0), build.Row(1, 1), build.Int()), false},
		{build.Fun(pureIn(0), build.Row(0, 1), build.Int()), build.Fun(pureIn(0), build.Row(0, 2), build.Int()), false},
		{build.Fun(pureIn(0), build.Row(1), build.Int()), build.Fun(pureIn(0), build.Row(0), build.Int()), true},
		{build.Fun(build.Var(0), build.Row(0), build.Int()), build.Fun(build.Int(), build.Row(-1, 32, 32, 32, 32), build.Int()), true},
	} {
		if got, e := Instance(c.general, c.special); got != c.want || e != api.OK {
			t.Errorf("%d: %v, %d", i, got, e)
		}
	}
}

// pureIn is a function's type whose row is a tail.
func pureIn(tail int) api.Type { return build.Fun(build.Int(), build.Row(tail), build.Int()) }

func TestEqual(t *testing.T) {
	for i, c := range []struct {
		a, b api.Type
		want bool
	}{
		{build.Int(), build.Int(), true},
		{build.Int(), build.Bool(), false},
		{build.Var(3), build.Var(0), true},
		{build.Var(3), build.Int(), false},
		{build.Pure(build.Var(3), build.Var(0)), build.Pure(build.Var(0), build.Var(3)), true},
		{build.Pure(build.Var(3), build.Var(0)), build.Pure(build.Var(1), build.Var(1)), false},
		{pureIn(4), pureIn(7), true},
		{pureIn(4), pureIn(-1), false},
		{build.Fun(pureIn(4), build.Row(4), build.Var(4)), build.Fun(pureIn(2), build.Row(2), build.Var(9)), true},
		{build.Fun(pureIn(4), build.Row(4), build.Var(4)), build.Fun(pureIn(2), build.Row(3), build.Var(9)), false},
		{build.Fun(build.Int(), build.Row(1, 1), build.Int()), build.Fun(build.Int(), build.Row(1, 2), build.Int()), false},
	} {
		if got, e := Equal(c.a, c.b); got != c.want || e != api.OK {
			t.Errorf("%d: %v, %d", i, got, e)
		}
	}
}

func TestForm(t *testing.T) {
	for _, bad := range []api.Type{{}, build.Of(api.TyNode{Kind: 4}), build.Of(api.TyNode{Kind: api.TypeVar, Var: -1}),
		build.Of(api.TyNode{}, api.TyNode{}), build.Of(api.TyNode{A: 1})} {
		for _, call := range []func(a, b api.Type) (bool, api.Errno){Instance, Equal} {
			if got, e := call(bad, build.Int()); got || e != api.ErrMatchForm {
				t.Errorf("%v: %v, %d", bad, got, e)
			}
			if got, e := call(build.Int(), bad); got || e != api.ErrMatchForm {
				t.Errorf("%v: %v, %d", bad, got, e)
			}
		}
	}
}

// What a type becomes under binds is an instance of it, and instances of each other are equal.
func TestUnderBinds(t *testing.T) {
	random := samples.Random(11)
	shape := samples.Shape{Vars: 4, Tails: 4, Counts: 3}
	both := 0
	for range 8000 {
		shape.Size = 1 + random.Below(9)
		general := samples.Type(&random, shape)
		var bs []api.Bind
		for v := range 4 {
			shape.Size = 1 + random.Below(5)
			bs = append(bs, api.Bind{Var: v, Type: samples.Type(&random, shape)})
			bs = append(bs, api.Bind{Var: v, IsRow: true, Row: samples.Row(&random, shape)})
		}
		special, e := subst.Type(bs, general)
		if e != api.OK {
			t.Fatal(e)
		}
		if ok, e := Instance(general, special); !ok || e != api.OK {
			t.Fatalf("%v of %v: %d", special, general, e)
		}
		other := samples.Type(&random, shape)
		one, _ := Instance(general, other)
		two, _ := Instance(other, general)
		equal, _ := Equal(general, other)
		if equal != (one && two) {
			t.Fatalf("%v, %v: %v, %v, %v", general, other, one, two, equal)
		}
		if one {
			both++
		}
	}
	if both < 100 {
		t.Errorf("only %d instances", both)
	}
}

// What makes two types one makes each of them an instance, of which each common instance is one.
func TestMostGeneral(t *testing.T) {
	random := samples.Random(12)
	shape := samples.Shape{Vars: 3, Tails: 3, Counts: 2}
	found := 0
	for range 20000 {
		shape.Size = 1 + random.Below(7)
		a, b := samples.Type(&random, shape), samples.Type(&random, shape)
		binds, e := unify.Unify(a, b, 3)
		var bs []api.Bind
		for v := range 3 {
			small := samples.Shape{Size: 1 + random.Below(3), Counts: 2}
			bs = append(bs, api.Bind{Var: v, Type: samples.Type(&random, small)})
			bs = append(bs, api.Bind{Var: v, IsRow: true, Row: samples.Row(&random, small)})
		}
		one, _ := subst.Type(bs, a)
		two, _ := subst.Type(bs, b)
		if same, _ := Equal(one, two); !same {
			continue
		}
		found++
		if e != api.OK {
			t.Fatalf("%v and %v can be one: %v; %d", a, b, bs, e)
		}
		general, _ := subst.Type(binds, a)
		if ok, _ := Instance(general, one); !ok {
			t.Fatalf("%v is no instance of %v", one, general)
		}
	}
	if found < 100 {
		t.Errorf("only %d pairs", found)
	}
}
