package unify

import (
	"reflect"
	"slices"
	"testing"

	"trammel/api"
	"trammel/build"
	"trammel/samples"
	"trammel/subst"
	"trammel/typ"
)

func bind(v int, t api.Type) api.Bind { return api.Bind{Var: v, Type: t} }

func tail(v int, r api.Row) api.Bind { return api.Bind{Var: v, IsRow: true, Row: r} }

func TestUnify(t *testing.T) {
	id := build.Pure(build.Var(1), build.Var(1))
	for i, c := range []struct {
		a, b  api.Type
		fresh int
		want  []api.Bind
		e     api.Errno
	}{
		{build.Int(), build.Int(), 0, nil, api.OK},
		{build.Bool(), build.Bool(), 0, nil, api.OK},
		{build.Int(), build.Bool(), 0, nil, api.ErrUnifyUnlike},
		{build.Bool(), build.Int(), 0, nil, api.ErrUnifyUnlike},
		{build.Int(), id, 0, nil, api.ErrUnifyUnlike},
		{id, build.Bool(), 0, nil, api.ErrUnifyUnlike},
		{build.Var(1), build.Var(1), 0, nil, api.OK},
		{build.Var(1), build.Var(2), 0, []api.Bind{bind(1, build.Var(2))}, api.OK},
		{build.Var(2), build.Var(1), 0, []api.Bind{bind(2, build.Var(1))}, api.OK},
		{build.Var(1), build.Int(), 0, []api.Bind{bind(1, build.Int())}, api.OK},
		{build.Int(), build.Var(1), 0, []api.Bind{bind(1, build.Int())}, api.OK},
		{build.Var(1), id, 0, nil, api.ErrUnifyOccurs},
		{id, build.Var(1), 0, nil, api.ErrUnifyOccurs},
		{build.Var(2), id, 0, []api.Bind{bind(2, id)}, api.OK},
		{id, id, 0, nil, api.OK},
		// What they take, then their rows, then what they give.
		{build.Pure(build.Int(), build.Var(1)), build.Pure(build.Bool(), build.Var(2)), 0, nil, api.ErrUnifyUnlike},
		{build.Fun(build.Int(), build.Row(-1), build.Var(1)), build.Fun(build.Var(2), build.Row(3), build.Bool()), 4,
			[]api.Bind{bind(2, build.Int()), tail(3, build.Row(-1)), bind(1, build.Bool())}, api.OK},
		{build.Fun(build.Int(), build.Row(-1), build.Var(1)), build.Fun(build.Int(), build.Row(-1, 1), id), 4, nil, api.ErrUnifyUnlike},
		{build.Fun(build.Int(), build.Row(2, 1), build.Int()), build.Fun(build.Int(), build.Row(2), build.Int()), 4, nil, api.ErrUnifyUnlike},
		{build.Fun(build.Var(1), build.Row(-1), build.Int()), build.Fun(id, build.Row(-1, 1), build.Int()), 4, nil, api.ErrUnifyOccurs},
		{build.Fun(build.Int(), build.Row(-1), build.Var(1)), build.Fun(build.Int(), build.Row(-1, 1), id), 4, nil, api.ErrUnifyUnlike},
		// Each new bind is put into all that are there; both sides are looked at under them.
		{build.Pure(build.Var(1), build.Var(2)), build.Pure(build.Var(2), build.Int()), 0,
			[]api.Bind{bind(1, build.Int()), bind(2, build.Int())}, api.OK},
		{build.Pure(build.Var(1), build.Var(1)), build.Pure(build.Var(2), build.Int()), 0,
			[]api.Bind{bind(1, build.Int()), bind(2, build.Int())}, api.OK},
		{build.Pure(build.Var(1), build.Pure(build.Var(2), build.Var(1))), build.Pure(build.Var(2), build.Pure(build.Int(), build.Var(3))), 0,
			[]api.Bind{bind(1, build.Int()), bind(2, build.Int()), bind(3, build.Int())}, api.OK},
		{build.Pure(build.Var(1), build.Var(2)), build.Pure(build.Var(2), build.Pure(build.Var(1), build.Int())), 0, nil, api.ErrUnifyOccurs},
		// New row variables, one behind each other.
		{build.Fun(build.Fun(build.Int(), build.Row(0, 1), build.Int()), build.Row(1, 0, 1), build.Int()),
			build.Fun(build.Fun(build.Int(), build.Row(2, 0, 1), build.Int()), build.Row(3, 1), build.Int()), 7,
			[]api.Bind{tail(0, build.Row(7, 0, 1)), tail(2, build.Row(7, 1)), tail(1, build.Row(8, 1)), tail(3, build.Row(8, 0, 1))}, api.OK},
		{build.Fun(build.Fun(build.Int(), build.Row(0, 1), build.Int()), build.Row(0), build.Int()),
			build.Fun(build.Fun(build.Int(), build.Row(1, 0, 1), build.Int()), build.Row(-1, 1, 1), build.Int()), 2,
			[]api.Bind{tail(0, build.Row(-1, 1, 1)), tail(1, build.Row(-1, 2)), tail(2, build.Row(-1, 1))}, api.OK},
		{build.Fun(build.Fun(build.Int(), build.Row(0, 1), build.Int()), build.Row(0), build.Var(4)),
			build.Fun(build.Fun(build.Int(), build.Row(1, 0, 1), build.Int()), build.Row(1), build.Int()), 2, nil, api.ErrUnifyUnlike},
		// A tail is put into types, too.
		{build.Fun(build.Var(0), build.Row(0), build.Int()), build.Fun(build.Fun(build.Int(), build.Row(0, 2), build.Int()), build.Row(-1, 3), build.Int()), 1,
			[]api.Bind{bind(0, build.Fun(build.Int(), build.Row(-1, 5), build.Int())), tail(0, build.Row(-1, 3))}, api.OK},
	} {
		got, e := Unify(c.a, c.b, c.fresh)
		if !reflect.DeepEqual(got, c.want) || e != c.e {
			t.Errorf("%d: %v, %d, want %v, %d", i, got, e, c.want, c.e)
		}
	}
}

func TestForm(t *testing.T) {
	effect := build.Fun(build.Int(), build.Row(5), build.Int())
	for i, c := range []struct {
		a, b  api.Type
		fresh int
	}{
		{api.Type{}, build.Int(), 0},
		{build.Int(), api.Type{}, 0},
		{build.Of(api.TyNode{Kind: 7}), build.Int(), 0},
		{build.Int(), build.Bool(), -1},
		{build.Int(), build.Bool(), api.MaxVars},
		{effect, build.Int(), 5},
		{build.Int(), effect, 5},
		{build.Pure(effect, build.Int()), build.Int(), 3},
	} {
		if got, e := Unify(c.a, c.b, c.fresh); got != nil || e != api.ErrUnifyForm {
			t.Errorf("%d: %v, %d", i, got, e)
		}
	}
	if _, e := Unify(effect, effect, 6); e != api.OK {
		t.Error(e)
	}
}

// doubling is two types under which variable 0 is a type of 2^(n+1) - 1 nodes.
func doubling(n int) (api.Type, api.Type) {
	a, b := build.Int(), build.Int()
	for v := n - 1; v >= 0; v-- {
		a = build.Pure(build.Var(v), a)
		b = build.Pure(build.Pure(build.Var(v+1), build.Var(v+1)), b)
	}
	return a, b
}

func TestMany(t *testing.T) {
	a, b := doubling(7)
	binds, e := Unify(a, b, 0)
	if e != api.OK || len(binds) != 7 || len(binds[0].Type.Nodes) != 255 {
		t.Errorf("%d binds, %d", len(binds), e)
	}
	for _, n := range []int{8, 30} {
		a, b = doubling(n)
		if binds, e := Unify(a, b, 0); binds != nil || e != api.ErrUnifyMany {
			t.Errorf("%d binds, %d", len(binds), e)
		}
		if binds, e := Unify(b, a, 0); binds != nil || e != api.ErrUnifyMany {
			t.Errorf("%d binds, %d", len(binds), e)
		}
	}
	// A type that is too great when it is looked at; that it is unlike is told first.
	great := build.Int()
	for range 60 {
		great = build.Pure(great, build.Int())
	}
	twice := build.Pure(build.Var(1), build.Pure(build.Pure(build.Var(1), build.Pure(build.Var(1), build.Var(1))), build.Var(2)))
	for _, c := range []struct {
		rest api.Type
		want api.Errno
	}{
		{build.Pure(build.Var(3), build.Var(4)), api.ErrUnifyMany},
		{build.Pure(build.Pure(build.Int(), build.Int()), build.Var(4)), api.ErrUnifyMany},
		{build.Int(), api.ErrUnifyUnlike},
	} {
		if binds, e := Unify(twice, build.Pure(great, c.rest), 0); binds != nil || e != c.want {
			t.Errorf("%v, %d, want %d", binds, e, c.want)
		}
	}
	// A count too great, in a type and in a row.
	full := build.Fun(build.Int(), build.Row(0, 32), build.Int())
	for _, c := range []struct{ a, b api.Type }{
		{build.Fun(build.Var(0), build.Row(0), build.Int()), build.Fun(full, build.Row(-1, 1), build.Int())},
		{build.Fun(full, build.Row(0), build.Int()), build.Fun(build.Var(0), build.Row(-1, 1), build.Int())},
		{build.Pure(build.Fun(build.Int(), build.Row(0), build.Int()), full), build.Pure(build.Fun(build.Int(), build.Row(-1, 1), build.Int()), full)},
		{build.Pure(full, build.Fun(build.Int(), build.Row(1), build.Int())), build.Pure(build.Fun(build.Int(), build.Row(1), build.Int()), build.Fun(build.Int(), build.Row(2, 1), build.Int()))},
	} {
		want := api.ErrUnifyMany
		if c.b.Nodes[len(c.b.Nodes)-2].Row.Tail == 2 {
			want = api.OK
		}
		if binds, e := Unify(c.a, c.b, 3); e != want {
			t.Errorf("Unify(%v, %v) = %v, %d", c.a, c.b, binds, e)
		}
	}
}

// P10.1: the last row variable may be made; then no rows may be made one any more.
func TestLastRowVariable(t *testing.T) {
	first := func(rest api.Type) api.Type {
		return build.Pure(build.Fun(build.Int(), build.Row(0, 1), build.Int()), rest)
	}
	second := func(rest api.Type) api.Type {
		return build.Pure(build.Fun(build.Int(), build.Row(1, 0, 1), build.Int()), rest)
	}
	a := build.Fun(build.Fun(build.Int(), build.Row(0, 1), build.Int()), build.Row(-1), build.Int())
	if _, e := Unify(build.Fun(build.Int(), build.Row(0, 1), build.Int()), build.Fun(build.Int(), build.Row(1, 0, 1), build.Int()), api.MaxVars-1); e != api.OK {
		t.Error(e)
	}
	if binds, e := Unify(first(build.Int()), second(build.Int()), api.MaxVars-1); binds != nil || e != api.ErrUnifyMany {
		t.Errorf("%v, %d", binds, e)
	}
	if binds, e := Unify(first(build.Int()), second(build.Int()), api.MaxVars-2); len(binds) != 2 || e != api.OK {
		t.Errorf("%v, %d", binds, e)
	}
	if binds, e := Unify(a, a, api.MaxVars-1); binds != nil || e != api.OK {
		t.Errorf("%v, %d", binds, e)
	}
}

// term is a type for the plain way to make two one, which the tests hold Unify against.
type term struct {
	kind, v int
	a, b    *term
	r       api.Row
}

type plain struct {
	types map[int]*term
	tails map[int]api.Row
	fresh int
}

func termOf(ns []api.TyNode, at int) *term {
	n := ns[at]
	if n.Kind == api.TypeFun {
		return &term{kind: n.Kind, a: termOf(ns, n.A), b: termOf(ns, n.B), r: n.Row}
	}
	return &term{kind: n.Kind, v: n.Var}
}

func (p *plain) find(t *term) *term {
	for t.kind == api.TypeVar && p.types[t.v] != nil {
		t = p.types[t.v]
	}
	return t
}

func (p *plain) findRow(r api.Row) api.Row {
	for {
		rest, ok := p.tails[r.Tail]
		if !ok || r.Tail < 0 {
			return r
		}
		for op := range r.Counts {
			r.Counts[op] += rest.Counts[op]
		}
		r.Tail = rest.Tail
	}
}

func (p *plain) has(t *term, v int) bool {
	t = p.find(t)
	if t.kind == api.TypeFun {
		return p.has(t.a, v) || p.has(t.b, v)
	}
	return t.kind == api.TypeVar && t.v == v
}

func (p *plain) one(a, b *term) bool {
	a, b = p.find(a), p.find(b)
	if b.kind == api.TypeVar {
		a, b = b, a
	}
	if a.kind == api.TypeVar {
		if b.kind == api.TypeVar && a.v == b.v {
			return true
		}
		if p.has(b, a.v) {
			return false
		}
		p.types[a.v] = b
		return true
	}
	if a.kind != b.kind {
		return false
	}
	return a.kind != api.TypeFun || p.one(a.a, b.a) && p.oneRow(a.r, b.r) && p.one(a.b, b.b)
}

func (p *plain) oneRow(a, b api.Row) bool {
	a, b = p.findRow(a), p.findRow(b)
	left, right := build.Row(-1), build.Row(-1)
	for op := range a.Counts {
		left.Counts[op] = max(b.Counts[op]-a.Counts[op], 0)
		right.Counts[op] = max(a.Counts[op]-b.Counts[op], 0)
	}
	if a.Tail == b.Tail {
		return left == right
	}
	if a.Tail < 0 && left != build.Row(-1) || b.Tail < 0 && right != build.Row(-1) {
		return false
	}
	if a.Tail >= 0 && b.Tail >= 0 {
		left.Tail, right.Tail = p.fresh, p.fresh
		p.fresh++
	}
	if a.Tail >= 0 {
		p.tails[a.Tail] = left
	}
	if b.Tail >= 0 {
		p.tails[b.Tail] = right
	}
	return true
}

func (p *plain) back(t *term) api.Type {
	t = p.find(t)
	if t.kind == api.TypeFun {
		return build.Fun(p.back(t.a), p.findRow(t.r), p.back(t.b))
	}
	return build.Of(api.TyNode{Kind: t.kind, Var: t.v})
}

func text(t *testing.T, made api.Type) string {
	t.Helper()
	s, e := typ.Text(made)
	if e != api.OK {
		t.Fatal(e)
	}
	return s
}

// P10.2: both are the same under the binds, and these are as general as the plain way's.
func TestMostGeneral(t *testing.T) {
	random := samples.Random(10)
	made := 0
	for range 20000 {
		shape := samples.Shape{Size: 1 + random.Below(14), Vars: 5, Tails: 4, Counts: 2}
		a, b := samples.Type(&random, shape), samples.Type(&random, shape)
		before := slices.Clone(a.Nodes)
		binds, e := Unify(a, b, 4)
		p := plain{types: make(map[int]*term), tails: make(map[int]api.Row), fresh: 100}
		can := p.one(termOf(a.Nodes, len(a.Nodes)-1), termOf(b.Nodes, len(b.Nodes)-1))
		if can != (e == api.OK) || !can && (binds != nil || e != api.ErrUnifyUnlike && e != api.ErrUnifyOccurs) {
			t.Fatalf("Unify(%s, %s) = %v, %d", text(t, a), text(t, b), binds, e)
		}
		if !reflect.DeepEqual(a.Nodes, before) {
			t.Fatal("what is handed in is changed")
		}
		if !can {
			continue
		}
		made++
		one, e1 := subst.Type(binds, a)
		two, e2 := subst.Type(binds, b)
		if e1 != api.OK || e2 != api.OK || !reflect.DeepEqual(one, two) {
			t.Fatalf("%v and %v are not one under %v", a, b, binds)
		}
		if want := text(t, p.back(termOf(a.Nodes, len(a.Nodes)-1))); text(t, one) != want {
			t.Fatalf("%s is %s, want %s", text(t, a), text(t, one), want)
		}
		checkBinds(t, binds)
	}
	if made < 2000 {
		t.Errorf("only %d pairs were made one", made)
	}
}

// checkBinds: one for each variable, and none has a variable that is bound.
func checkBinds(t *testing.T, binds []api.Bind) {
	t.Helper()
	for i, b := range binds {
		for _, other := range binds[:i] {
			if other.Var == b.Var && other.IsRow == b.IsRow {
				t.Fatalf("two binds of one variable: %v", binds)
			}
		}
		if b.IsRow {
			if got, _ := subst.Row(binds, b.Row); got != b.Row || b.Type.Nodes != nil {
				t.Fatalf("%v in %v", b, binds)
			}
			continue
		}
		if got, _ := subst.Type(binds, b.Type); !reflect.DeepEqual(got, b.Type) || b.Row != (api.Row{}) {
			t.Fatalf("%v in %v", b, binds)
		}
	}
}
