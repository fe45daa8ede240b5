// Package binds makes types and rows one: layers 10 and 13 share it (DOC.md, chapter 10).
package binds

import (
	"errors"

	"trammel/api"
	"trammel/rows"
	"trammel/shape"
)

// What can keep two types or rows from being one.
var (
	ErrUnlike = errors.New("they are unlike")
	ErrOccurs = errors.New("a variable stands in what it is to be")
	ErrMany   = errors.New("a limit is reached")
)

// part is an error in a part of two functions' types.
type part struct {
	of  string
	err error
}

func (p *part) Error() string { return p.of + ": " + p.err.Error() }

func (p *part) Unwrap() error { return p.err }

// bound is a variable that is bound, to a type or to a row.
type bound struct {
	number int
	isRow  bool
	is     *shape.Shape
	row    api.Row
}

// Set is what variables are bound to. What is bound has no variable that is bound itself: each new
// bind is put into all that are there.
type Set struct {
	// made are the binds, in the row in which they were made; types and tails tell where they are.
	made  []bound
	types map[int]int
	tails map[int]int
	// fresh is the first row variable that nobody has.
	fresh int
}

// New is a set without binds, in which row variables are new from this one on.
func New(fresh int) *Set {
	return &Set{types: make(map[int]int), tails: make(map[int]int), fresh: fresh}
}

// NewTail is a row variable that nobody has.
func (s *Set) NewTail() (int, error) {
	if s.fresh >= api.MaxVars {
		return 0, ErrMany
	}
	s.fresh++
	return s.fresh - 1, nil
}

// Under is a type under all binds; it need not fit.
func (s *Set) Under(t *shape.Shape) *shape.Shape {
	return t.Put(s.typeOf, s.rowOf)
}

// UnderRow is a row under all binds; its counts may be too great.
func (s *Set) UnderRow(r api.Row) api.Row {
	return shape.PutRow(r, s.rowOf)
}

func (s *Set) typeOf(v int) (*shape.Shape, bool) {
	i, ok := s.types[v]
	if !ok {
		return nil, false
	}
	return s.made[i].is, true
}

func (s *Set) rowOf(tail int) (api.Row, bool) {
	i, ok := s.tails[tail]
	if !ok {
		return api.Row{}, false
	}
	return s.made[i].row, true
}

// Made tells all binds, in the row in which they were made.
func (s *Set) Made() []api.Bind {
	var all []api.Bind
	for _, b := range s.made {
		if b.isRow {
			all = append(all, api.Bind{Var: b.number, IsRow: true, Row: b.row})
		} else {
			all = append(all, api.Bind{Var: b.number, Type: b.is.Type()})
		}
	}
	return all
}

// One makes two types one. That they are unlike, or a variable stands in what it is to be, is told
// ahead of that they are too great.
func (s *Set) One(a, b *shape.Shape) error {
	a, b = s.Under(a), s.Under(b)
	switch {
	case a.Kind == api.TypeVar && b.Kind == api.TypeVar && a.Var == b.Var:
		return nil
	case a.Kind == api.TypeVar:
		return s.bind(a.Var, b)
	case b.Kind == api.TypeVar:
		return s.bind(b.Var, a)
	case a.Kind != b.Kind:
		return ErrUnlike
	case !a.Fits() || !b.Fits():
		return ErrMany
	case a.Kind == api.TypeFun:
		return s.functions(a, b)
	}
	return nil
}

func (s *Set) functions(a, b *shape.Shape) error {
	if err := s.One(a.A, b.A); err != nil {
		return &part{"what they take", err}
	}
	if err := s.OneRow(a.Row, b.Row); err != nil {
		return &part{"their rows", err}
	}
	if err := s.One(a.B, b.B); err != nil {
		return &part{"what they give", err}
	}
	return nil
}

// OneRow makes two rows one.
func (s *Set) OneRow(a, b api.Row) error {
	a, b = s.UnderRow(a), s.UnderRow(b)
	made, ok := rows.Unify(a, b, s.fresh)
	if !ok {
		return ErrUnlike
	}
	if !rows.CountsMay(a) || !rows.CountsMay(b) || s.fresh >= api.MaxVars {
		return ErrMany
	}
	if len(made) == 2 {
		s.fresh++
	}
	for _, b := range made {
		if err := s.bindTail(b.Var, b.Row); err != nil {
			return err
		}
	}
	return nil
}

func (s *Set) bind(v int, t *shape.Shape) error {
	occurs := false
	t.Visit(func(other int) { occurs = occurs || other == v }, func(int) {})
	if occurs {
		return ErrOccurs
	}
	if !t.Fits() {
		return ErrMany
	}
	typeOf := func(other int) (*shape.Shape, bool) { return t, other == v }
	rowOf := func(int) (api.Row, bool) { return api.Row{}, false }
	if err := s.put(typeOf, rowOf); err != nil {
		return err
	}
	s.types[v] = len(s.made)
	s.made = append(s.made, bound{number: v, is: t})
	return nil
}

func (s *Set) bindTail(tail int, r api.Row) error {
	typeOf := func(int) (*shape.Shape, bool) { return nil, false }
	rowOf := func(other int) (api.Row, bool) { return r, other == tail }
	if err := s.put(typeOf, rowOf); err != nil {
		return err
	}
	s.tails[tail] = len(s.made)
	s.made = append(s.made, bound{number: tail, isRow: true, row: r})
	return nil
}

// put puts a new bind into all that are there.
func (s *Set) put(typeOf func(v int) (*shape.Shape, bool), rowOf func(tail int) (api.Row, bool)) error {
	for i := range s.made {
		b := &s.made[i]
		if b.isRow {
			b.row = shape.PutRow(b.row, rowOf)
			if !rows.CountsMay(b.row) {
				return ErrMany
			}
			continue
		}
		b.is = b.is.Put(typeOf, rowOf)
		if !b.is.Fits() {
			return ErrMany
		}
	}
	return nil
}
