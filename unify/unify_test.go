package unify

import (
	"reflect"
	"slices"
	"testing"

	"trammel/api"
	"trammel/samples"
	"trammel/subst"
	"trammel/typ"
)

func of(nodes ...api.TyNode) api.Type { return api.Type{Nodes: nodes} }

func integer() api.Type { return of(api.TyNode{Kind: api.TypeInt}) }

func truth() api.Type { return of(api.TyNode{Kind: api.TypeBool}) }

func variable(v int) api.Type { return of(api.TyNode{Kind: api.TypeVar, Var: v}) }

func row(tail int, counts ...int) api.Row {
	r := api.Row{Tail: tail}
	copy(r.Counts[:], counts)
	return r
}

func fun(a api.Type, r api.Row, b api.Type) api.Type {
	f, e := typ.Fun(a, r, b)
	if e != api.OK {
		panic(e)
	}
	return f
}

// pure is a function's type with an empty row.
func pure(a, b api.Type) api.Type { return fun(a, row(-1), b) }

func bind(v int, t api.Type) api.Bind { return api.Bind{Var: v, Type: t} }

func tail(v int, r api.Row) api.Bind { return api.Bind{Var: v, IsRow: true, Row: r} }

func TestUnify(t *testing.T) {
	id := pure(variable(1), variable(1))
	for i, c := range []struct {
		a, b  api.Type
		fresh int
		want  []api.Bind
		e     api.Errno
	}{
		{integer(), integer(), 0, nil, api.OK},
		{truth(), truth(), 0, nil, api.OK},
		{integer(), truth(), 0, nil, api.ErrUnifyUnlike},
		{truth(), integer(), 0, nil, api.ErrUnifyUnlike},
		{integer(), id, 0, nil, api.ErrUnifyUnlike},
		{id, truth(), 0, nil, api.ErrUnifyUnlike},
		{variable(1), variable(1), 0, nil, api.OK},
		{variable(1), variable(2), 0, []api.Bind{bind(1, variable(2))}, api.OK},
		{variable(2), variable(1), 0, []api.Bind{bind(2, variable(1))}, api.OK},
		{variable(1), integer(), 0, []api.Bind{bind(1, integer())}, api.OK},
		{integer(), variable(1), 0, []api.Bind{bind(1, integer())}, api.OK},
		{variable(1), id, 0, nil, api.ErrUnifyOccurs},
		{id, variable(1), 0, nil, api.ErrUnifyOccurs},
		{variable(2), id, 0, []api.Bind{bind(2, id)}, api.OK},
		{id, id, 0, nil, api.OK},
		// What they take, then their rows, then what they give.
		{pure(integer(), variable(1)), pure(truth(), variable(2)), 0, nil, api.ErrUnifyUnlike},
		{fun(integer(), row(-1), variable(1)), fun(variable(2), row(3), truth()), 4,
			[]api.Bind{bind(2, integer()), tail(3, row(-1)), bind(1, truth())}, api.OK},
		{fun(integer(), row(-1), variable(1)), fun(integer(), row(-1, 1), id), 4, nil, api.ErrUnifyUnlike},
		{fun(integer(), row(2, 1), integer()), fun(integer(), row(2), integer()), 4, nil, api.ErrUnifyUnlike},
		{fun(variable(1), row(-1), integer()), fun(id, row(-1, 1), integer()), 4, nil, api.ErrUnifyOccurs},
		{fun(integer(), row(-1), variable(1)), fun(integer(), row(-1, 1), id), 4, nil, api.ErrUnifyUnlike},
		// Each new bind is put into all that are there; both sides are looked at under them.
		{pure(variable(1), variable(2)), pure(variable(2), integer()), 0,
			[]api.Bind{bind(1, integer()), bind(2, integer())}, api.OK},
		{pure(variable(1), variable(1)), pure(variable(2), integer()), 0,
			[]api.Bind{bind(1, integer()), bind(2, integer())}, api.OK},
		{pure(variable(1), pure(variable(2), variable(1))), pure(variable(2), pure(integer(), variable(3))), 0,
			[]api.Bind{bind(1, integer()), bind(2, integer()), bind(3, integer())}, api.OK},
		{pure(variable(1), variable(2)), pure(variable(2), pure(variable(1), integer())), 0, nil, api.ErrUnifyOccurs},
		// New row variables, one behind each other.
		{fun(fun(integer(), row(0, 1), integer()), row(1, 0, 1), integer()),
			fun(fun(integer(), row(2, 0, 1), integer()), row(3, 1), integer()), 7,
			[]api.Bind{tail(0, row(7, 0, 1)), tail(2, row(7, 1)), tail(1, row(8, 1)), tail(3, row(8, 0, 1))}, api.OK},
		{fun(fun(integer(), row(0, 1), integer()), row(0), integer()),
			fun(fun(integer(), row(1, 0, 1), integer()), row(-1, 1, 1), integer()), 2,
			[]api.Bind{tail(0, row(-1, 1, 1)), tail(1, row(-1, 2)), tail(2, row(-1, 1))}, api.OK},
		{fun(fun(integer(), row(0, 1), integer()), row(0), variable(4)),
			fun(fun(integer(), row(1, 0, 1), integer()), row(1), integer()), 2, nil, api.ErrUnifyUnlike},
		// A tail is put into types, too.
		{fun(variable(0), row(0), integer()), fun(fun(integer(), row(0, 2), integer()), row(-1, 3), integer()), 1,
			[]api.Bind{bind(0, fun(integer(), row(-1, 5), integer())), tail(0, row(-1, 3))}, api.OK},
	} {
		got, e := Unify(c.a, c.b, c.fresh)
		if !reflect.DeepEqual(got, c.want) || e != c.e {
			t.Errorf("%d: %v, %d, want %v, %d", i, got, e, c.want, c.e)
		}
	}
}

func TestForm(t *testing.T) {
	effect := fun(integer(), row(5), integer())
	for i, c := range []struct {
		a, b  api.Type
		fresh int
	}{
		{api.Type{}, integer(), 0},
		{integer(), api.Type{}, 0},
		{of(api.TyNode{Kind: 7}), integer(), 0},
		{integer(), truth(), -1},
		{integer(), truth(), api.MaxVars},
		{effect, integer(), 5},
		{integer(), effect, 5},
		{pure(effect, integer()), integer(), 3},
	} {
		if got, e := Unify(c.a, c.b, c.fresh); got != nil || e != api.ErrUnifyForm {
			t.Errorf("%d: %v, %d", i, got, e)
		}
	}
	if _, e := Unify(effect, effect, 6); e != api.OK {
		t.Error(e)
	}
}

// doubling is two types under which variable 0 is a type of 2^(n+1) - 1 nodes.
func doubling(n int) (api.Type, api.Type) {
	a, b := integer(), integer()
	for v := n - 1; v >= 0; v-- {
		a = pure(variable(v), a)
		b = pure(pure(variable(v+1), variable(v+1)), b)
	}
	return a, b
}

func TestMany(t *testing.T) {
	a, b := doubling(7)
	binds, e := Unify(a, b, 0)
	if e != api.OK || len(binds) != 7 || len(binds[0].Type.Nodes) != 255 {
		t.Errorf("%d binds, %d", len(binds), e)
	}
	for _, n := range []int{8, 30} {
		a, b = doubling(n)
		if binds, e := Unify(a, b, 0); binds != nil || e != api.ErrUnifyMany {
			t.Errorf("%d binds, %d", len(binds), e)
		}
		if binds, e := Unify(b, a, 0); binds != nil || e != api.ErrUnifyMany {
			t.Errorf("%d binds, %d", len(binds), e)
		}
	}
	// A type that is too great when it is looked at; that it is unlike is told first.
	great := integer()
	for range 60 {
		great = pure(great, integer())
	}
	twice := pure(variable(1), pure(pure(variable(1), pure(variable(1), variable(1))), variable(2)))
	for _, c := range []struct {
		rest api.Type
		want api.Errno
	}{
		{pure(variable(3), variable(4)), api.ErrUnifyMany},
		{pure(pure(integer(), integer()), variable(4)), api.ErrUnifyMany},
		{integer(), api.ErrUnifyUnlike},
	} {
		if binds, e := Unify(twice, pure(great, c.rest), 0); binds != nil || e != c.want {
			t.Errorf("%v, %d, want %d", binds, e, c.want)
		}
	}
	// A count too great, in a type and in a row.
	full := fun(integer(), row(0, 32), integer())
	for _, c := range []struct{ a, b api.Type }{
		{fun(variable(0), row(0), integer()), fun(full, row(-1, 1), integer())},
		{fun(full, row(0), integer()), fun(variable(0), row(-1, 1), integer())},
		{pure(fun(integer(), row(0), integer()), full), pure(fun(integer(), row(-1, 1), integer()), full)},
		{pure(full, fun(integer(), row(1), integer())), pure(fun(integer(), row(1), integer()), fun(integer(), row(2, 1), integer()))},
	} {
		want := api.ErrUnifyMany
		if c.b.Nodes[len(c.b.Nodes)-2].Row.Tail == 2 {
			want = api.OK
		}
		if binds, e := Unify(c.a, c.b, 3); e != want {
			t.Errorf("Unify(%v, %v) = %v, %d", c.a, c.b, binds, e)
		}
	}
}

// P10.1: the last row variable may be made; then no rows may be made one any more.
func TestLastRowVariable(t *testing.T) {
	first := func(rest api.Type) api.Type { return pure(fun(integer(), row(0, 1), integer()), rest) }
	second := func(rest api.Type) api.Type { return pure(fun(integer(), row(1, 0, 1), integer()), rest) }
	a := fun(fun(integer(), row(0, 1), integer()), row(-1), integer())
	if _, e := Unify(fun(integer(), row(0, 1), integer()), fun(integer(), row(1, 0, 1), integer()), api.MaxVars-1); e != api.OK {
		t.Error(e)
	}
	if binds, e := Unify(first(integer()), second(integer()), api.MaxVars-1); binds != nil || e != api.ErrUnifyMany {
		t.Errorf("%v, %d", binds, e)
	}
	if binds, e := Unify(first(integer()), second(integer()), api.MaxVars-2); len(binds) != 2 || e != api.OK {
		t.Errorf("%v, %d", binds, e)
	}
	if binds, e := Unify(a, a, api.MaxVars-1); binds != nil || e != api.OK {
		t.Errorf("%v, %d", binds, e)
	}
}

// term is a type for the plain way to make two one, which the tests hold Unify against.
type term struct {
	kind, v int
	a, b    *term
	r       api.Row
}

type plain struct {
	types map[int]*term
	tails map[int]api.Row
	fresh int
}

func termOf(ns []api.TyNode, at int) *term {
	n := ns[at]
	if n.Kind == api.TypeFun {
		return &term{kind: n.Kind, a: termOf(ns, n.A), b: termOf(ns, n.B), r: n.Row}
	}
	return &term{kind: n.Kind, v: n.Var}
}

func (p *plain) find(t *term) *term {
	for t.kind == api.TypeVar && p.types[t.v] != nil {
		t = p.types[t.v]
	}
	return t
}

func (p *plain) findRow(r api.Row) api.Row {
	for {
		rest, ok := p.tails[r.Tail]
		if !ok || r.Tail < 0 {
			return r
		}
		for op := range r.Counts {
			r.Counts[op] += rest.Counts[op]
		}
		r.Tail = rest.Tail
	}
}

func (p *plain) has(t *term, v int) bool {
	t = p.find(t)
	if t.kind == api.TypeFun {
		return p.has(t.a, v) || p.has(t.b, v)
	}
	return t.kind == api.TypeVar && t.v == v
}

func (p *plain) one(a, b *term) bool {
	a, b = p.find(a), p.find(b)
	if b.kind == api.TypeVar {
		a, b = b, a
	}
	if a.kind == api.TypeVar {
		if b.kind == api.TypeVar && a.v == b.v {
			return true
		}
		if p.has(b, a.v) {
			return false
		}
		p.types[a.v] = b
		return true
	}
	if a.kind != b.kind {
		return false
	}
	return a.kind != api.TypeFun || p.one(a.a, b.a) && p.oneRow(a.r, b.r) && p.one(a.b, b.b)
}

func (p *plain) oneRow(a, b api.Row) bool {
	a, b = p.findRow(a), p.findRow(b)
	left, right := row(-1), row(-1)
	for op := range a.Counts {
		left.Counts[op] = max(b.Counts[op]-a.Counts[op], 0)
		right.Counts[op] = max(a.Counts[op]-b.Counts[op], 0)
	}
	if a.Tail == b.Tail {
		return left == right
	}
	if a.Tail < 0 && left != row(-1) || b.Tail < 0 && right != row(-1) {
		return false
	}
	if a.Tail >= 0 && b.Tail >= 0 {
		left.Tail, right.Tail = p.fresh, p.fresh
		p.fresh++
	}
	if a.Tail >= 0 {
		p.tails[a.Tail] = left
	}
	if b.Tail >= 0 {
		p.tails[b.Tail] = right
	}
	return true
}

func (p *plain) back(t *term) api.Type {
	t = p.find(t)
	if t.kind == api.TypeFun {
		return fun(p.back(t.a), p.findRow(t.r), p.back(t.b))
	}
	return of(api.TyNode{Kind: t.kind, Var: t.v})
}

func text(t *testing.T, made api.Type) string {
	t.Helper()
	s, e := typ.Text(made)
	if e != api.OK {
		t.Fatal(e)
	}
	return s
}

// P10.2: both are the same under the binds, and these are as general as the plain way's.
func TestMostGeneral(t *testing.T) {
	random := samples.Random(10)
	made := 0
	for range 20000 {
		shape := samples.Shape{Size: 1 + random.Below(14), Vars: 5, Tails: 4, Counts: 2}
		a, b := samples.Type(&random, shape), samples.Type(&random, shape)
		before := slices.Clone(a.Nodes)
		binds, e := Unify(a, b, 4)
		p := plain{types: make(map[int]*term), tails: make(map[int]api.Row), fresh: 100}
		can := p.one(termOf(a.Nodes, len(a.Nodes)-1), termOf(b.Nodes, len(b.Nodes)-1))
		if can != (e == api.OK) || !can && (binds != nil || e != api.ErrUnifyUnlike && e != api.ErrUnifyOccurs) {
			t.Fatalf("Unify(%s, %s) = %v, %d", text(t, a), text(t, b), binds, e)
		}
		if !reflect.DeepEqual(a.Nodes, before) {
			t.Fatal("what is handed in is changed")
		}
		if !can {
			continue
		}
		made++
		one, e1 := subst.Type(binds, a)
		two, e2 := subst.Type(binds, b)
		if e1 != api.OK || e2 != api.OK || !reflect.DeepEqual(one, two) {
			t.Fatalf("%v and %v are not one under %v", a, b, binds)
		}
		if want := text(t, p.back(termOf(a.Nodes, len(a.Nodes)-1))); text(t, one) != want {
			t.Fatalf("%s is %s, want %s", text(t, a), text(t, one), want)
		}
		checkBinds(t, binds)
	}
	if made < 2000 {
		t.Errorf("only %d pairs were made one", made)
	}
}

// checkBinds: one for each variable, and none has a variable that is bound.
func checkBinds(t *testing.T, binds []api.Bind) {
	t.Helper()
	for i, b := range binds {
		for _, other := range binds[:i] {
			if other.Var == b.Var && other.IsRow == b.IsRow {
				t.Fatalf("two binds of one variable: %v", binds)
			}
		}
		if b.IsRow {
			if got, _ := subst.Row(binds, b.Row); got != b.Row || b.Type.Nodes != nil {
				t.Fatalf("%v in %v", b, binds)
			}
			continue
		}
		if got, _ := subst.Type(binds, b.Type); !reflect.DeepEqual(got, b.Type) || b.Row != (api.Row{}) {
			t.Fatalf("%v in %v", b, binds)
		}
	}
}
