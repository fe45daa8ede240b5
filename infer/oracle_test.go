package infer

import (
	"reflect"
	"slices"
	"testing"

	"trammel/api"
	"trammel/row"
	"trammel/samples"
	"trammel/scheme"
	"trammel/scope"
	"trammel/subst"
	"trammel/typ"
)

// oracle infers by the calls of layers 7 to 9 and 12, each of which is handed all binds anew. The tests
// hold Infer against it.
type oracle struct {
	api.Program
	binds       []api.Bind
	types, rows int
	made        []api.Type
	places      []api.Row
	functions   map[int]api.Type
	takes       map[int][]api.Row
	others      map[int][]api.Type
}

// refused is what the oracle panics with.
type refused struct {
	at int
	e  api.Errno
}

func (o *oracle) fail(node int, e api.Errno) { panic(refused{o.Nodes[node].At, e}) }

func (o *oracle) limit(node int, e api.Errno) {
	if e != api.OK {
		o.fail(node, api.ErrInferMany)
	}
}

func (o *oracle) under(node int, t api.Type) api.Type {
	t, e := subst.Type(o.binds, t)
	o.limit(node, e)
	return t
}

func (o *oracle) underRow(node int, r api.Row) api.Row {
	r, e := subst.Row(o.binds, r)
	o.limit(node, e)
	return r
}

func (o *oracle) newType(node int) api.Type {
	if o.types == api.MaxVars {
		o.fail(node, api.ErrInferMany)
	}
	o.types++
	return api.Type{Nodes: []api.TyNode{{Kind: api.TypeVar, Var: o.types - 1}}}
}

func (o *oracle) newRow(node int) api.Row {
	if o.rows == api.MaxVars {
		o.fail(node, api.ErrInferMany)
	}
	o.rows++
	return api.Row{Tail: o.rows - 1}
}

func (o *oracle) fun(node int, a api.Type, r api.Row, b api.Type) api.Type {
	t, e := typ.Fun(o.under(node, a), o.underRow(node, r), o.under(node, b))
	o.limit(node, e)
	return t
}

// one makes types one as chapter 10 says, all binds of the program being one set.
func (o *oracle) one(node int, a, b api.Type) {
	a, b = o.under(node, a), o.under(node, b)
	x, y := a.Nodes[len(a.Nodes)-1], b.Nodes[len(b.Nodes)-1]
	switch {
	case x.Kind == api.TypeVar && y.Kind == api.TypeVar && x.Var == y.Var:
	case x.Kind == api.TypeVar:
		o.bind(node, x.Var, b)
	case y.Kind == api.TypeVar:
		o.bind(node, y.Var, a)
	case x.Kind != y.Kind:
		o.fail(node, api.ErrInferType)
	case x.Kind == api.TypeFun:
		o.one(node, part(a, x.A), part(b, y.A))
		o.oneRow(node, x.Row, y.Row)
		o.one(node, part(a, x.B), part(b, y.B))
	}
}

// part is the type whose root is this node.
func part(t api.Type, at int) api.Type {
	n := t.Nodes[at]
	if n.Kind != api.TypeFun {
		return api.Type{Nodes: []api.TyNode{n}}
	}
	f, _ := typ.Fun(part(t, n.A), n.Row, part(t, n.B))
	return f
}

func (o *oracle) bind(node, v int, t api.Type) {
	if vs, _, _ := typ.Vars(t); slices.Contains(vs, v) {
		o.fail(node, api.ErrInferType)
	}
	o.put(node, []api.Bind{{Var: v, Type: t}})
}

// put puts binds into all that are there, one behind the other.
func (o *oracle) put(node int, made []api.Bind) {
	for _, m := range made {
		for i, b := range o.binds {
			e := api.OK
			if b.IsRow {
				o.binds[i].Row, e = subst.Row([]api.Bind{m}, b.Row)
			} else {
				o.binds[i].Type, e = subst.Type([]api.Bind{m}, b.Type)
			}
			o.limit(node, e)
		}
		o.binds = append(o.binds, m)
	}
}

func (o *oracle) oneRow(node int, a, b api.Row) {
	a, b = o.underRow(node, a), o.underRow(node, b)
	if o.rows == api.MaxVars {
		o.fail(node, api.ErrInferMany)
	}
	made, e := row.Unify(a, b, o.rows)
	if e != api.OK {
		o.fail(node, api.ErrInferType)
	}
	if len(made) == 2 {
		o.rows++
	}
	o.put(node, made)
}

func (o *oracle) close(node int, t api.Type, env []api.Scheme) api.Scheme {
	var types, rows []int
	for _, s := range env {
		vs, es, _ := typ.Vars(o.under(node, s.Type))
		for _, v := range vs {
			if !slices.Contains(s.Vars, v) {
				types = append(types, v)
			}
		}
		for _, e := range es {
			if !slices.Contains(s.Rows, e) {
				rows = append(rows, e)
			}
		}
	}
	s, e := scheme.Close(o.under(node, t), types, rows)
	o.limit(node, e)
	return s
}

func (o *oracle) look(node int, r api.Row, env []api.Scheme) api.Type {
	o.places[node] = r
	o.made[node] = o.kind(node, r, env)
	return o.made[node]
}

func (o *oracle) kind(at int, r api.Row, env []api.Scheme) api.Type {
	n := o.Nodes[at]
	base := func(kind int) api.Type { return api.Type{Nodes: []api.TyNode{{Kind: kind}}} }
	mono := func(t api.Type) api.Scheme { return api.Scheme{Type: t} }
	in := func(more ...api.Scheme) []api.Scheme { return slices.Concat(env, more) }
	switch n.Kind {
	case api.NodeVar:
		s := env[len(env)-1-n.Num]
		s.Type = o.under(at, s.Type)
		for range s.Vars {
			o.others[at] = append(o.others[at], o.newType(at))
		}
		for range s.Rows {
			o.takes[at] = append(o.takes[at], o.newRow(at))
		}
		t, e := scheme.Take(s, o.others[at], o.takes[at])
		o.limit(at, e)
		return t
	case api.NodeInt, api.NodeBool:
		return base(n.Kind - api.NodeInt + api.TypeInt)
	case api.NodeFun:
		a, e := o.newType(at), o.newRow(at)
		return o.fun(at, a, e, o.look(n.A, e, in(mono(a))))
	case api.NodeApp:
		f, g := o.look(n.A, r, env), o.look(n.B, r, env)
		t := o.newType(at)
		o.one(at, f, o.fun(at, g, r, t))
		return t
	case api.NodeLet:
		s := api.Scheme{}
		if k := o.Nodes[n.A].Kind; k <= api.NodeFun {
			s = o.close(at, o.look(n.A, o.newRow(at), env), env)
		} else {
			s.Type = o.look(n.A, r, env)
		}
		return o.look(n.B, r, in(s))
	case api.NodeRec:
		a, e, t := o.newType(at), o.newRow(at), o.newType(at)
		f := o.fun(at, a, e, t)
		o.functions[at], o.others[at] = f, []api.Type{a}
		o.one(at, o.look(n.A, e, in(mono(f), mono(a))), t)
		return o.look(n.B, r, in(o.close(at, f, env)))
	case api.NodeIf:
		o.one(at, o.look(n.A, r, env), base(api.TypeBool))
		b := o.look(n.B, r, env)
		o.one(at, b, o.look(n.C, r, env))
		return b
	case api.NodePrim:
		o.one(at, o.look(n.A, r, env), base(api.TypeInt))
		o.one(at, o.look(n.B, r, env), base(api.TypeInt))
		return base(n.Num / api.PrimEq)
	case api.NodeDo:
		o.one(at, o.look(n.A, r, env), base(o.Ops[n.Num].From))
		has := o.newRow(at)
		has.Counts[n.Num] = 1
		o.oneRow(at, r, has)
		return base(o.Ops[n.Num].To)
	}
	with, e := row.With(o.underRow(at, r), n.Num)
	o.limit(at, e)
	v := o.look(n.A, with, env)
	t := o.newType(at)
	k := o.fun(at, base(o.Ops[n.Num].To), r, t)
	o.functions[at] = k
	o.one(at, o.look(n.B, r, in(mono(base(o.Ops[n.Num].From)), mono(k))), t)
	o.one(at, o.look(n.C, r, in(mono(v))), t)
	return t
}

// last looks at all nodes under all binds.
func (o *oracle) last() {
	for at := range o.Nodes {
		o.under(at, o.made[at])
		o.underRow(at, o.places[at])
		for _, t := range o.others[at] {
			o.under(at, t)
		}
		for _, r := range o.takes[at] {
			o.underRow(at, r)
		}
		if f, ok := o.functions[at]; ok {
			o.under(at, f)
		}
	}
}

func ask(p api.Program) (text string, at int, e api.Errno) {
	o := oracle{Program: p, made: make([]api.Type, len(p.Nodes)), places: make([]api.Row, len(p.Nodes)),
		functions: make(map[int]api.Type), takes: make(map[int][]api.Row), others: make(map[int][]api.Type)}
	defer func() {
		if r, ok := recover().(refused); ok {
			text, at, e = "", r.at, r.e
		}
	}()
	root := o.look(len(p.Nodes)-1, api.Row{Tail: -1}, nil)
	o.last()
	text, _ = typ.Text(o.under(len(p.Nodes)-1, root))
	return text, 0, api.OK
}

func hold(t *testing.T, p api.Program) api.Errno {
	t.Helper()
	want, wantAt, wantError := ask(p)
	got, at, e := Infer(p)
	text, _ := typ.Text(got)
	if text != want || at != wantAt || e != wantError {
		t.Fatalf("%v: %q, %d, %d, want %q, %d, %d", p, text, at, e, want, wantAt, wantError)
	}
	if e == api.OK {
		again, _, _ := Infer(p)
		again, _ = subst.Type(nil, again)
		if !reflect.DeepEqual(got, again) {
			t.Fatalf("%v: %v, then %v", p, got, again)
		}
	}
	return e
}

// P13.1: the same type, or the same error and place, as the table tells by the layers' calls.
func TestOracle(t *testing.T) {
	random := samples.Random(31)
	met := make(map[api.Errno]int)
	for i := range 6000 {
		var p api.Program
		if i%2 == 0 {
			p, _ = samples.Typed(&random, 1+random.Below(30))
		} else {
			p = samples.Scoped(&random, 1+random.Below(20))
		}
		p, _, _ = scope.Resolve(p)
		if i%4 == 0 {
			spoil(&random, p)
		}
		if !scope.May(p) {
			continue
		}
		met[hold(t, p)]++
	}
	if met[api.OK] < 1000 || met[api.ErrInferType] < 1000 {
		t.Errorf("%v", met)
	}
}

// spoil changes some number of a program.
func spoil(random *samples.Random, p api.Program) {
	n := &p.Nodes[random.Below(len(p.Nodes))]
	if n.Kind == api.NodeBool {
		n.Kind = api.NodeInt
	} else {
		n.Num = random.Below(3)
	}
}

// growing makes a program of some lets, the types of which grow: most double what is bound further out.
func growing(random *samples.Random) api.Program {
	var r rowOf
	many := 3 + random.Below(9)
	var operands []int
	var put func(level, bound int) int
	variable := func(bound int) int { return r.variable(random.Below(min(bound, 1+random.Below(3)))) }
	operand := func(bound int) int {
		if bound == 0 {
			return r.put(api.Node{Kind: api.NodeFun, A: r.variable(0)})
		}
		switch random.Below(20) {
		case 0:
			a := variable(bound)
			return r.pair(api.NodeApp, a, variable(bound))
		case 1:
			c := r.put(api.Node{Kind: api.NodeBool})
			b := variable(bound)
			return r.put(api.Node{Kind: api.NodeIf, A: c, B: b, C: variable(bound)})
		case 2:
			a := variable(bound)
			b := variable(bound + 2)
			c := variable(bound + 1)
			return r.put(api.Node{Kind: api.NodeHandle, A: a, B: b, C: c})
		case 3:
			a := r.put(api.Node{Kind: api.NodeDo, A: variable(bound + 1)})
			return r.put(api.Node{Kind: api.NodeFun, A: a})
		case 4:
			a := variable(bound + 2)
			return r.put(api.Node{Kind: api.NodeRec, A: a, B: variable(bound + 1)})
		}
		f := r.variable(0)
		f = r.pair(api.NodeApp, f, r.variable(1+random.Below(min(bound, 2))))
		f = r.pair(api.NodeApp, f, r.variable(1+random.Below(min(bound, 2))))
		return r.put(api.Node{Kind: api.NodeFun, A: f})
	}
	put = func(level, bound int) int {
		if level == 0 {
			return variable(bound)
		}
		if random.Below(4) == 0 {
			return r.put(api.Node{Kind: api.NodeFun, A: put(level-1, bound+1)})
		}
		a := operand(bound)
		operands = append(operands, a)
		return r.pair(api.NodeLet, a, put(level-1, bound+1))
	}
	put(many, 0)
	return api.Program{Ops: []api.Op{{Name: "o"}}, Nodes: r.nodes}
}

// P13.1: the same limit, at the same place.
func TestOracleOfLimits(t *testing.T) {
	random := samples.Random(32)
	met := make(map[api.Errno]int)
	for range 500 {
		p := growing(&random)
		if !scope.May(p) {
			t.Fatalf("%v", p)
		}
		met[hold(t, p)]++
	}
	if met[api.ErrInferMany] < 8 {
		t.Errorf("%v", met)
	}
}
