package scheme

import (
	"reflect"
	"slices"
	"testing"

	"trammel/api"
	"trammel/build"
	"trammel/match"
	"trammel/samples"
	"trammel/subst"
)

// sample has type variables 5, 2, 8 and row variables 4, 9 by first appearance.
func sample() api.Type {
	return build.Fun(build.Var(5), build.Row(4), build.Fun(build.Fun(build.Var(2), build.Row(9), build.Var(5)), build.Row(4, 1), build.Var(8)))
}

func TestClose(t *testing.T) {
	for i, c := range []struct {
		types, rows         []int
		wantVars, wantTails []int
	}{
		{nil, nil, []int{5, 2, 8}, []int{4, 9}},
		{[]int{2}, []int{4}, []int{5, 8}, []int{9}},
		{[]int{9, 4}, []int{5, 2}, []int{5, 2, 8}, []int{4, 9}},
		{[]int{8, 2, 5, 2}, []int{9, 4}, nil, nil},
		{[]int{-1, 1 << 40, 5}, []int{-9}, []int{2, 8}, []int{4, 9}},
	} {
		made := sample()
		s, e := Close(made, c.types, c.rows)
		if e != api.OK || !slices.Equal(s.Vars, c.wantVars) || !slices.Equal(s.Rows, c.wantTails) || !reflect.DeepEqual(s.Type, made) {
			t.Errorf("%d: %v, %d", i, s, e)
		}
		s.Type.Nodes[0].Var = 77
		if made.Nodes[0].Var != 5 {
			t.Error("what is answered shares memory with what is handed in")
		}
	}
	if s, e := Close(build.Int(), nil, nil); e != api.OK || s.Vars != nil || s.Rows != nil {
		t.Errorf("%v, %d", s, e)
	}
	for _, bad := range []api.Type{{}, build.Of(api.TyNode{Kind: 4}), build.Of(api.TyNode{}, api.TyNode{})} {
		if s, e := Close(bad, nil, nil); !reflect.DeepEqual(s, api.Scheme{}) || e != api.ErrSchemeForm {
			t.Errorf("%v: %v, %d", bad, s, e)
		}
	}
}

func TestTake(t *testing.T) {
	s := api.Scheme{Vars: []int{2, 5}, Rows: []int{9}, Type: sample()}
	got, e := Take(s, []api.Type{build.Var(5), build.Fun(build.Int(), build.Row(9), build.Var(2))}, []api.Row{build.Row(4, 0, 2)})
	five := build.Fun(build.Int(), build.Row(9), build.Var(2))
	want := build.Fun(five, build.Row(4), build.Fun(build.Fun(build.Var(5), build.Row(4, 0, 2), five), build.Row(4, 1), build.Var(8)))
	if e != api.OK || !reflect.DeepEqual(got, want) {
		t.Errorf("%v, %d, want %v", got, e, want)
	}
	if got, e := Take(api.Scheme{Type: sample()}, nil, nil); e != api.OK || !reflect.DeepEqual(got, sample()) {
		t.Errorf("%v, %d", got, e)
	}
	idle := api.Scheme{Vars: []int{0, api.MaxVars - 1}, Rows: []int{0, 1, api.MaxVars - 1}, Type: build.Int()}
	got, e = Take(idle, []api.Type{build.Int(), build.Int()}, []api.Row{build.Row(-1), build.Row(0), build.Row(-1)})
	if e != api.OK || !reflect.DeepEqual(got, build.Int()) {
		t.Errorf("%v, %d", got, e)
	}
}

func count(n int) []int {
	var all []int
	for i := range n {
		all = append(all, i)
	}
	return all
}

func TestTakeForm(t *testing.T) {
	one, two := []api.Type{build.Int()}, []api.Type{build.Int(), build.Int()}
	empty := []api.Row{build.Row(-1)}
	great := build.Int()
	for range 120 {
		great = build.Fun(great, build.Row(-1), build.Int())
	}
	full := build.Fun(build.Int(), build.Row(1, 32), build.Int())
	for i, c := range []struct {
		s  api.Scheme
		ts []api.Type
		rs []api.Row
	}{
		{api.Scheme{}, nil, nil},
		{api.Scheme{Type: build.Of(api.TyNode{Kind: 9})}, nil, nil},
		{api.Scheme{Vars: []int{-1}, Type: build.Int()}, one, nil},
		{api.Scheme{Vars: []int{api.MaxVars}, Type: build.Int()}, one, nil},
		{api.Scheme{Vars: []int{3, 3}, Type: build.Int()}, two, nil},
		{api.Scheme{Rows: []int{-1}, Type: build.Int()}, nil, empty},
		{api.Scheme{Rows: []int{api.MaxVars}, Type: build.Int()}, nil, empty},
		{api.Scheme{Rows: []int{3, 3}, Type: build.Int()}, nil, []api.Row{build.Row(-1), build.Row(-1)}},
		{api.Scheme{Vars: []int{3}, Type: build.Int()}, nil, nil},
		{api.Scheme{Vars: []int{3}, Type: build.Int()}, two, nil},
		{api.Scheme{Type: build.Int()}, one, nil},
		{api.Scheme{Rows: []int{3}, Type: build.Int()}, nil, nil},
		{api.Scheme{Type: build.Int()}, nil, empty},
		{api.Scheme{Vars: []int{3}, Type: build.Int()}, []api.Type{{}}, nil},
		{api.Scheme{Rows: []int{3}, Type: build.Int()}, nil, []api.Row{build.Row(-2)}},
		{api.Scheme{Vars: []int{3}, Type: build.Fun(build.Var(3), build.Row(-1), build.Var(3))}, []api.Type{great}, nil},
		{api.Scheme{Rows: []int{1}, Type: full}, nil, []api.Row{build.Row(-1, 1)}},
		{api.Scheme{Vars: count(api.MaxVars), Rows: []int{0}, Type: build.Int()},
			slices.Repeat(one, api.MaxVars), empty},
		{api.Scheme{Vars: slices.Repeat([]int{1}, 1<<20), Type: build.Int()}, slices.Repeat(one, 1<<20), nil},
	} {
		if got, e := Take(c.s, c.ts, c.rs); got.Nodes != nil || e != api.ErrSchemeForm {
			t.Errorf("%d: %v, %d", i, got, e)
		}
	}
	s := api.Scheme{Vars: count(api.MaxVars), Type: build.Int()}
	if got, e := Take(s, slices.Repeat(one, api.MaxVars), nil); e != api.OK || !reflect.DeepEqual(got, build.Int()) {
		t.Errorf("%v, %d", got, e)
	}
}

// What is closed over all and taken at other variables is the same type, and what is taken is an instance.
func TestCloseAndTake(t *testing.T) {
	random := samples.Random(13)
	for range 2000 {
		shape := samples.Shape{Size: 1 + random.Below(30), Vars: 6, Tails: 6, Counts: 3}
		made := samples.Type(&random, shape)
		s, e := Close(made, []int{random.Below(6)}, []int{random.Below(6)})
		if e != api.OK {
			t.Fatal(e)
		}
		var ts, fresh []api.Type
		var rs, newRows []api.Row
		var bs []api.Bind
		for i, v := range s.Vars {
			shape.Size = 1 + random.Below(5)
			ts = append(ts, samples.Type(&random, shape))
			fresh = append(fresh, build.Var(100+i))
			bs = append(bs, api.Bind{Var: v, Type: ts[i]})
		}
		for i, v := range s.Rows {
			rs = append(rs, samples.Row(&random, shape))
			newRows = append(newRows, build.Row(100+i))
			bs = append(bs, api.Bind{Var: v, IsRow: true, Row: rs[i]})
		}
		got, e := Take(s, ts, rs)
		want, _ := subst.Type(bs, made)
		if e != api.OK || !reflect.DeepEqual(got, want) {
			t.Fatalf("%v: %v, %d, want %v", s, got, e, want)
		}
		if ok, _ := match.Instance(made, got); !ok {
			t.Fatalf("%v is no instance of %v", got, made)
		}
		again, e := Take(s, fresh, newRows)
		if equal, _ := match.Equal(made, again); e != api.OK || !equal {
			t.Fatalf("%v, %d, want %v", again, e, made)
		}
	}
}
