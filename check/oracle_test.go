package check

import (
	"reflect"
	"slices"
	"testing"

	"trammel/api"
	"trammel/build"
	"trammel/elab"
	"trammel/row"
	"trammel/samples"
	"trammel/scheme"
	"trammel/scope"
	"trammel/typ"
)

// oracle tells all rules that are not met, from the root on: the tests hold Check against it.
type oracle struct {
	api.Core
	broken []int
}

func (o *oracle) need(node int, met bool) {
	if !met {
		o.broken = append(o.broken, node)
	}
}

// known tells whether all variables of types and rows are among some.
func known(ts []api.Type, rs []api.Row, types, tails []int) bool {
	for _, t := range ts {
		vs, es, _ := typ.Vars(t)
		for _, v := range vs {
			if !slices.Contains(types, v) {
				return false
			}
		}
		for _, e := range es {
			rs = append(rs, build.Row(e))
		}
	}
	for _, r := range rs {
		if r.Tail >= 0 && !slices.Contains(tails, r.Tail) {
			return false
		}
	}
	return true
}

func same(a, b api.Type) bool { return slices.Equal(a.Nodes, b.Nodes) }

// free makes a function's type, however great it is.
func free(a api.Type, r api.Row, b api.Type) api.Type {
	ns := slices.Clone(a.Nodes)
	for _, n := range b.Nodes {
		if n.Kind == api.TypeFun {
			n.A, n.B = n.A+len(a.Nodes), n.B+len(a.Nodes)
		}
		ns = append(ns, n)
	}
	return api.Type{Nodes: append(ns, api.TyNode{Kind: api.TypeFun, A: len(a.Nodes) - 1, B: len(ns) - 1, Row: r})}
}

// split is what a function's type takes and gives.
func split(t api.Type) (api.Type, api.Type) {
	last := len(t.Nodes) - 1
	cut := t.Nodes[last].A + 1
	b := slices.Clone(t.Nodes[cut:last])
	for i := range b {
		if b[i].Kind == api.TypeFun {
			b[i].A, b[i].B = b[i].A-cut, b[i].B-cut
		}
	}
	return api.Type{Nodes: t.Nodes[:cut]}, api.Type{Nodes: b}
}

func (o *oracle) walk(at int, env []api.Scheme, types, tails []int) {
	n, m := o.Nodes[at], o.Marks[at]
	a, b, c := o.Marks[n.A], o.Marks[n.B], o.Marks[n.C]
	in := func(more ...api.Scheme) []api.Scheme { return slices.Concat(env, more) }
	mono := func(t api.Type) api.Scheme { return api.Scheme{Type: t} }
	inTypes, inTails := slices.Concat(types, m.Vars), slices.Concat(tails, m.Rows)
	o.need(at, known([]api.Type{m.Type}, append(slices.Clone(m.Takes), m.Row), types, tails))
	o.need(at, known(m.Types, nil, inTypes, inTails))
	for _, v := range m.Vars {
		o.need(at, !slices.Contains(types, v))
	}
	for _, v := range m.Rows {
		o.need(at, !slices.Contains(tails, v))
	}
	binder := n.Kind == api.NodeLet || n.Kind == api.NodeRec
	o.need(at, binder || len(m.Vars) == 0 && len(m.Rows) == 0)
	o.need(at, n.Kind == api.NodeVar || len(m.Takes) == 0)
	o.need(at, n.Kind == api.NodeVar || n.Kind == api.NodeRec || len(m.Types) == 0)
	int0, bool0 := build.Base(api.TypeInt), build.Base(api.TypeBool)
	switch n.Kind {
	case api.NodeVar:
		s := env[len(env)-1-n.Num]
		t, e := scheme.Take(s, m.Types, m.Takes)
		o.need(at, e == api.OK && same(t, m.Type))
	case api.NodeInt:
		o.need(at, same(m.Type, int0))
	case api.NodeBool:
		o.need(at, same(m.Type, bool0))
	case api.NodeFun:
		root := m.Type.Nodes[len(m.Type.Nodes)-1]
		takes := int0
		o.need(at, root.Kind == api.TypeFun)
		if root.Kind == api.TypeFun {
			var gives api.Type
			takes, gives = split(m.Type)
			o.need(at, same(gives, a.Type) && a.Row == root.Row)
		}
		o.walk(n.A, in(mono(takes)), types, tails)
	case api.NodeApp:
		o.need(at, a.Row == m.Row && b.Row == m.Row && same(a.Type, free(b.Type, m.Row, m.Type)))
		o.walk(n.A, env, types, tails)
		o.walk(n.B, env, types, tails)
	case api.NodeLet:
		o.need(at, b.Row == m.Row && same(b.Type, m.Type))
		if k := o.Nodes[n.A].Kind; k != api.NodeVar && k != api.NodeInt && k != api.NodeBool && k != api.NodeFun {
			o.need(at, a.Row == m.Row && len(m.Vars) == 0 && len(m.Rows) == 0)
		}
		o.walk(n.A, env, inTypes, inTails)
		o.walk(n.B, in(api.Scheme{Vars: m.Vars, Rows: m.Rows, Type: a.Type}), types, tails)
	case api.NodeRec:
		takes := int0
		if len(m.Types) == 1 {
			takes = m.Types[0]
		}
		f := free(takes, a.Row, a.Type)
		o.need(at, b.Row == m.Row && same(b.Type, m.Type) && len(m.Types) == 1 && typ.May(f))
		o.walk(n.A, in(mono(f), mono(takes)), inTypes, inTails)
		o.walk(n.B, in(api.Scheme{Vars: m.Vars, Rows: m.Rows, Type: f}), types, tails)
	case api.NodeIf:
		o.need(at, a.Row == m.Row && b.Row == m.Row && c.Row == m.Row && same(a.Type, bool0))
		o.need(at, same(b.Type, m.Type) && same(c.Type, m.Type))
		o.walk(n.A, env, types, tails)
		o.walk(n.B, env, types, tails)
		o.walk(n.C, env, types, tails)
	case api.NodePrim:
		o.need(at, a.Row == m.Row && b.Row == m.Row && same(a.Type, int0) && same(b.Type, int0))
		o.need(at, same(m.Type, int0) == (n.Num < api.PrimEq) && same(m.Type, bool0) == (n.Num >= api.PrimEq))
		o.walk(n.A, env, types, tails)
		o.walk(n.B, env, types, tails)
	case api.NodeDo:
		op := o.Ops[n.Num]
		o.need(at, a.Row == m.Row && same(a.Type, build.Base(op.From)) && same(m.Type, build.Base(op.To)) && m.Row.Counts[n.Num] >= 1)
		o.walk(n.A, env, types, tails)
	case api.NodeHandle:
		op := o.Ops[n.Num]
		with, e := row.With(m.Row, n.Num)
		k := free(build.Base(op.To), m.Row, m.Type)
		o.need(at, e == api.OK && a.Row == with && b.Row == m.Row && c.Row == m.Row && typ.May(k))
		o.need(at, same(b.Type, m.Type) && same(c.Type, m.Type))
		o.walk(n.A, env, types, tails)
		o.walk(n.B, in(mono(build.Base(op.From)), mono(k)), types, tails)
		o.walk(n.C, in(mono(a.Type)), types, tails)
	}
}

// spoil changes some of a core's marks.
func spoil(random *samples.Random, c api.Core, great []api.Type) {
	m := &c.Marks[random.Below(len(c.Marks))]
	other := c.Marks[random.Below(len(c.Marks))]
	shape := samples.Shape{Size: 1 + random.Below(4), Vars: 3, Tails: 3, Counts: 3}
	switch random.Below(10) {
	case 0:
		m.Type = other.Type
	case 1:
		m.Row = other.Row
	case 2:
		m.Type = samples.Type(random, shape)
	case 3:
		m.Row = samples.Row(random, shape)
	case 4:
		m.Vars, m.Rows = other.Vars, other.Rows
	case 5:
		m.Types, m.Takes = other.Types, other.Takes
	case 6:
		m.Vars = []int{random.Below(3)}
	case 7:
		m.Rows = []int{random.Below(3)}
	case 8:
		m.Types = append(slices.Clone(m.Types), samples.Type(random, shape))
	case 9:
		m.Type = great[random.Below(2)]
	}
}

func TestOracle(t *testing.T) {
	random := samples.Random(18)
	met, unmet := 0, 0
	great := []api.Type{wide(126), wide(127)}
	for i := range 8000 {
		var p api.Program
		if i%2 == 0 {
			p = samples.Scoped(&random, 1+random.Below(16))
		} else {
			p, _ = samples.Typed(&random, 1+random.Below(30))
		}
		p, _, _ = scope.Resolve(p)
		c, _, e := elab.Core(p)
		if e != api.OK {
			continue
		}
		for range random.Below(4) {
			spoil(&random, c, great)
		}
		was := copied(c)
		o := oracle{Core: c}
		o.need(len(c.Nodes)-1, c.Marks[len(c.Marks)-1].Row == build.Row(-1))
		o.walk(len(c.Nodes)-1, nil, nil, nil)
		want, wantError := 0, api.OK
		if len(o.broken) > 0 {
			want, wantError = slices.Min(o.broken), api.ErrCheckType
			unmet++
		} else {
			met++
		}
		if at, e := Check(c); at != want || e != wantError {
			t.Fatalf("%v: %d, %d, want %d, %d (%v)", c, at, e, want, wantError, o.broken)
		}
		if !reflect.DeepEqual(c, was) {
			t.Fatal("what is handed in is changed")
		}
	}
	if met < 1000 || unmet < 1000 {
		t.Errorf("%d met, %d not", met, unmet)
	}
}
