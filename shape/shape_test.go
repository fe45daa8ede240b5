package shape

import (
	"reflect"
	"slices"
	"testing"

	"trammel/api"
	"trammel/samples"
)

func row(tail int, counts ...int) api.Row {
	r := api.Row{Tail: tail}
	copy(r.Counts[:], counts)
	return r
}

// A shape tells the type again that it is of, and shows its variables by their appearance.
func TestOfType(t *testing.T) {
	random := samples.Random(33)
	for range 1000 {
		made := samples.Type(&random, samples.Shape{Size: 1 + random.Below(40), Vars: 4, Tails: 4, Counts: 3})
		s := Of(made)
		if !reflect.DeepEqual(s.Type(), made) || s.Size != len(made.Nodes) || !s.Fits() {
			t.Fatalf("%v of %v", s.Type(), made)
		}
	}
	f := Fun(Fun(Var(3), row(0), Int()), row(5), Fun(Bool(), row(-1), Fun(Var(0), row(2), Var(3))))
	var vars, tails []int
	f.Visit(func(v int) { vars = append(vars, v) }, func(tail int) { tails = append(tails, tail) })
	if !slices.Equal(vars, []int{3, 0, 3}) || !slices.Equal(tails, []int{0, 5, 2}) {
		t.Errorf("%v, %v", vars, tails)
	}
}

func TestSame(t *testing.T) {
	make := func() *Shape { return Fun(Fun(Var(1), row(0, 1), Int()), row(5), Bool()) }
	if s := make(); !Same(s, s) || !Same(s, make()) {
		t.Error("a shape is not the same as itself")
	}
	for i, other := range []*Shape{
		Int(),
		Fun(Fun(Var(2), row(0, 1), Int()), row(5), Bool()),
		Fun(Fun(Var(1), row(1, 1), Int()), row(5), Bool()),
		Fun(Fun(Var(1), row(0, 2), Int()), row(5), Bool()),
		Fun(Fun(Var(1), row(0, 1), Bool()), row(5), Bool()),
		Fun(Fun(Var(1), row(0, 1), Int()), row(-1), Bool()),
		Fun(Fun(Var(1), row(0, 1), Int()), row(5), Int()),
		Fun(Var(1), row(5), Bool()),
		Fun(Bool(), row(5), Fun(Var(1), row(0, 1), Int())),
	} {
		if Same(make(), other) || Same(other, make()) {
			t.Errorf("%d is the same", i)
		}
	}
}

func TestFits(t *testing.T) {
	great := Int()
	for range 127 {
		great = Fun(great, row(-1), Int())
	}
	if !great.Fits() || Fun(great, row(-1), Int()).Fits() {
		t.Error("255 nodes fit, 257 do not")
	}
	if !Fun(Int(), row(0, 32), Int()).Fits() || Fun(Fun(Int(), row(0, 33), Int()), row(0), Int()).Fits() {
		t.Error("a count of 32 fits, one of 33 does not")
	}
}

// What does not change is not made anew.
func TestPut(t *testing.T) {
	s := Fun(Fun(Var(1), row(0), Int()), row(-1), Var(2))
	types := func(v int) (*Shape, bool) { return Bool(), v == 2 }
	tails := func(int) (api.Row, bool) { return api.Row{}, false }
	put := s.Put(types, tails)
	if put.A != s.A || put.B.Kind != api.TypeBool || s.B.Kind != api.TypeVar {
		t.Errorf("%v", put.Type())
	}
	none := func(int) (*Shape, bool) { return nil, false }
	if s.Put(none, tails) != s {
		t.Error("a shape is made anew")
	}
	some := func(tail int) (api.Row, bool) { return row(7, 2), tail == 0 }
	if got := s.Put(none, some); got.A.Row != row(7, 2) || got.Row != row(-1) || s.A.Row != row(0) {
		t.Errorf("%v", got.Type())
	}
}
