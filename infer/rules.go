package infer

import (
	"errors"

	"trammel/api"
	"trammel/binds"
	"trammel/row"
	"trammel/scheme"
	"trammel/shape"
)

// bound is the type of what is bound, for any of what it is closed over.
type bound struct {
	is     *shape.Shape
	closed api.Scheme
}

// place is where a node stands: its row, and what is bound there, the one furthest in last.
type place struct {
	row   api.Row
	bound []bound
}

// with is a place where more is bound.
func (p place) with(more ...bound) place {
	return place{row: p.row, bound: append(p.bound, more...)}
}

// at is a place where the same is bound, with another row.
func (p place) at(r api.Row) place {
	return place{row: r, bound: p.bound}
}

// rule tells what is done with a kind of node: a method of the state for each.
func rule(kind int) func(s *state, node int, here place) (*shape.Shape, error) {
	return [...]func(s *state, node int, here place) (*shape.Shape, error){
		api.NodeVar:    (*state).variable,
		api.NodeInt:    (*state).number,
		api.NodeBool:   (*state).truth,
		api.NodeFun:    (*state).fun,
		api.NodeApp:    (*state).app,
		api.NodeLet:    (*state).let,
		api.NodeRec:    (*state).rec,
		api.NodeIf:     (*state).choice,
		api.NodePrim:   (*state).prim,
		api.NodeDo:     (*state).do,
		api.NodeHandle: (*state).handle,
	}[kind]
}

// look is a node's type. An error that is not a child's is told at the node's place in the text.
func (s *state) look(node int, here place) (*shape.Shape, error) {
	n := s.program.Nodes[node]
	s.notes[node].row = here.row
	t, err := rule(n.Kind)(s, node, here)
	if err != nil {
		var inner *failure
		if errors.As(err, &inner) {
			return nil, err
		}
		return nil, &failure{n.At, err}
	}
	s.notes[node].is = t
	return t, nil
}

// lookAs looks at a node whose type is to be this one.
func (s *state) lookAs(node int, here place, want *shape.Shape) error {
	t, err := s.look(node, here)
	if err != nil {
		return err
	}
	return s.One(t, want)
}

// newType is a type variable that nobody has.
func (s *state) newType() (*shape.Shape, error) {
	if s.types == api.MaxVars {
		return nil, binds.ErrMany
	}
	s.types++
	return shape.Var(s.types - 1), nil
}

// newRow is a row of nothing but a tail that nobody has.
func (s *state) newRow() (api.Row, error) {
	tail, err := s.NewTail()
	return api.Row{Tail: tail}, err
}

// fitting is a type under all binds, if it is not too great.
func (s *state) fitting(t *shape.Shape) (*shape.Shape, error) {
	t = s.Under(t)
	if !t.Fits() {
		return nil, binds.ErrMany
	}
	return t, nil
}

// function is a function's type that a rule makes.
func (s *state) function(a *shape.Shape, r api.Row, b *shape.Shape) (*shape.Shape, error) {
	return s.fitting(shape.Fun(a, r, b))
}

// close is a type for any of its variables that are free in nothing that is bound at a place.
func (s *state) close(t *shape.Shape, here place) (bound, error) {
	t, err := s.fitting(t)
	if err != nil {
		return bound{}, err
	}
	types, tails, err := s.free(here)
	if err != nil {
		return bound{}, err
	}
	closed, e := scheme.Close(t.Type(), types, tails)
	if e != api.OK {
		return bound{}, e
	}
	return bound{t, closed}, nil
}

// free is the variables that are free in what is bound at a place, each sort by itself.
func (s *state) free(here place) ([]int, []int, error) {
	types, tails := newVariables(), newVariables()
	for _, b := range here.bound {
		t, err := s.fitting(b.is)
		if err != nil {
			return nil, nil, err
		}
		t.Visit(types.without(b.closed.Vars), tails.without(b.closed.Rows))
	}
	return types.all, tails.all, nil
}

func (s *state) variable(node int, here place) (*shape.Shape, error) {
	b := here.bound[len(here.bound)-1-s.program.Nodes[node].Num]
	t, err := s.fitting(b.is)
	if err != nil {
		return nil, err
	}
	n := &s.notes[node]
	for range b.closed.Vars {
		taken, err := s.newType()
		if err != nil {
			return nil, err
		}
		n.types = append(n.types, taken)
	}
	for range b.closed.Rows {
		taken, err := s.newRow()
		if err != nil {
			return nil, err
		}
		n.takes = append(n.takes, taken)
	}
	return t.Put(lookup(b.closed.Vars, n.types), lookup(b.closed.Rows, n.takes)), nil
}

func (s *state) number(int, place) (*shape.Shape, error) { return shape.Int(), nil }

func (s *state) truth(int, place) (*shape.Shape, error) { return shape.Bool(), nil }

func (s *state) fun(node int, here place) (*shape.Shape, error) {
	a, err := s.newType()
	if err != nil {
		return nil, err
	}
	inside, err := s.newRow()
	if err != nil {
		return nil, err
	}
	b, err := s.look(s.program.Nodes[node].A, here.at(inside).with(bound{is: a}))
	if err != nil {
		return nil, err
	}
	return s.function(a, inside, b)
}

func (s *state) app(node int, here place) (*shape.Shape, error) {
	n := s.program.Nodes[node]
	f, err := s.look(n.A, here)
	if err != nil {
		return nil, err
	}
	g, err := s.look(n.B, here)
	if err != nil {
		return nil, err
	}
	t, err := s.newType()
	if err != nil {
		return nil, err
	}
	want, err := s.function(g, here.row, t)
	if err != nil {
		return nil, err
	}
	return t, s.One(f, want)
}

// isValue tells whether a node is of those that do nothing, so that their types may be closed.
func isValue(n api.Node) bool {
	switch n.Kind {
	case api.NodeVar, api.NodeInt, api.NodeBool, api.NodeFun:
		return true
	}
	return false
}

func (s *state) let(node int, here place) (*shape.Shape, error) {
	n := s.program.Nodes[node]
	b, err := s.operand(n.A, here)
	if err != nil {
		return nil, err
	}
	s.notes[node].closed = b.closed
	return s.look(n.B, here.with(b))
}

// operand is what a NodeLet binds.
func (s *state) operand(node int, here place) (bound, error) {
	if !isValue(s.program.Nodes[node]) {
		t, err := s.look(node, here)
		return bound{is: t}, err
	}
	inside, err := s.newRow()
	if err != nil {
		return bound{}, err
	}
	t, err := s.look(node, here.at(inside))
	if err != nil {
		return bound{}, err
	}
	return s.close(t, here)
}

func (s *state) rec(node int, here place) (*shape.Shape, error) {
	n := s.program.Nodes[node]
	a, err := s.newType()
	if err != nil {
		return nil, err
	}
	inside, err := s.newRow()
	if err != nil {
		return nil, err
	}
	t, err := s.newType()
	if err != nil {
		return nil, err
	}
	f := shape.Fun(a, inside, t)
	s.notes[node].types, s.notes[node].function = []*shape.Shape{a}, f
	if err := s.lookAs(n.A, here.at(inside).with(bound{is: f}, bound{is: a}), t); err != nil {
		return nil, err
	}
	b, err := s.close(f, here)
	if err != nil {
		return nil, err
	}
	s.notes[node].closed = b.closed
	return s.look(n.B, here.with(b))
}

func (s *state) choice(node int, here place) (*shape.Shape, error) {
	n := s.program.Nodes[node]
	if err := s.lookAs(n.A, here, shape.Bool()); err != nil {
		return nil, err
	}
	b, err := s.look(n.B, here)
	if err != nil {
		return nil, err
	}
	return b, s.lookAs(n.C, here, b)
}

func (s *state) prim(node int, here place) (*shape.Shape, error) {
	n := s.program.Nodes[node]
	if err := s.lookAs(n.A, here, shape.Int()); err != nil {
		return nil, err
	}
	if err := s.lookAs(n.B, here, shape.Int()); err != nil {
		return nil, err
	}
	if n.Num == api.PrimEq || n.Num == api.PrimLess {
		return shape.Bool(), nil
	}
	return shape.Int(), nil
}

func (s *state) do(node int, here place) (*shape.Shape, error) {
	n := s.program.Nodes[node]
	op := s.program.Ops[n.Num]
	if err := s.lookAs(n.A, here, shape.Base(op.From)); err != nil {
		return nil, err
	}
	has, err := s.newRow()
	if err != nil {
		return nil, err
	}
	has.Counts[n.Num] = 1
	return shape.Base(op.To), s.OneRow(here.row, has)
}

func (s *state) handle(node int, here place) (*shape.Shape, error) {
	n := s.program.Nodes[node]
	op := s.program.Ops[n.Num]
	inside, e := row.With(s.UnderRow(here.row), n.Num)
	if e != api.OK {
		return nil, binds.ErrMany
	}
	v, err := s.look(n.A, here.at(inside))
	if err != nil {
		return nil, err
	}
	t, err := s.newType()
	if err != nil {
		return nil, err
	}
	on, err := s.function(shape.Base(op.To), here.row, t)
	if err != nil {
		return nil, err
	}
	s.notes[node].function = on
	if err := s.lookAs(n.B, here.with(bound{is: shape.Base(op.From)}, bound{is: on}), t); err != nil {
		return nil, err
	}
	return t, s.lookAs(n.C, here.with(bound{is: v}), t)
}
