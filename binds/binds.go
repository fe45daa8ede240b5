// Package binds makes types and rows one: layers 10 and 13 share it (DOC.md, chapter 10).
package binds

import (
	"errors"

	"trammel/api"
	"trammel/rows"
	"trammel/shape"
)

// What can keep two types or rows from being one.
var (
	ErrUnlike = errors.New("they are unlike")
	ErrOccurs = errors.New("a variable stands in what it is to be")
	ErrMany   = errors.New("a limit is reached")
)

// part is an error in a part of two functions' types.
type part struct {
	of  string
	err error
}

func (p *part) Error() string { return p.of + ": " + p.err.Error() }

func (p *part) Unwrap() error { return p.err }

// variable is one that is bound; type variables and row variables have numbers of their own.
type variable struct {
	number int
	isRow  bool
}

// Set is what variables are bound to. What is bound has no variable that is bound itself: each new
// bind is put into all that are there.
type Set struct {
	types map[int]*shape.Shape
	tails map[int]api.Row
	// made are the variables that are bound, in the row in which they were.
	made []variable
	// fresh is the first row variable that nobody has.
	fresh int
}

// New is a set without binds, in which row variables are new from this one on.
func New(fresh int) *Set {
	return &Set{types: make(map[int]*shape.Shape), tails: make(map[int]api.Row), fresh: fresh}
}

// NewTail is a row variable that nobody has.
func (s *Set) NewTail() (int, error) {
	if s.fresh >= api.MaxVars {
		return 0, ErrMany
	}
	s.fresh++
	return s.fresh - 1, nil
}

// Under is a type under all binds; it need not fit.
func (s *Set) Under(t *shape.Shape) *shape.Shape {
	return t.Put(s.typeOf, s.rowOf)
}

// UnderRow is a row under all binds; its counts may be too great.
func (s *Set) UnderRow(r api.Row) api.Row {
	return shape.PutRow(r, s.rowOf)
}

func (s *Set) typeOf(v int) (*shape.Shape, bool) {
	t, ok := s.types[v]
	return t, ok
}

func (s *Set) rowOf(tail int) (api.Row, bool) {
	r, ok := s.tails[tail]
	return r, ok
}

// Made tells all binds, in the row in which they were made.
func (s *Set) Made() []api.Bind {
	var all []api.Bind
	for _, v := range s.made {
		b := api.Bind{Var: v.number, IsRow: v.isRow}
		if v.isRow {
			b.Row = s.tails[v.number]
		} else {
			b.Type = s.types[v.number].Type()
		}
		all = append(all, b)
	}
	return all
}

// One makes two types one. That they are unlike, or a variable stands in what it is to be, is told
// ahead of that they are too great.
func (s *Set) One(a, b *shape.Shape) error {
	a, b = s.Under(a), s.Under(b)
	switch {
	case a.Kind == api.TypeVar && b.Kind == api.TypeVar && a.Var == b.Var:
		return nil
	case a.Kind == api.TypeVar:
		return s.bind(a.Var, b)
	case b.Kind == api.TypeVar:
		return s.bind(b.Var, a)
	case a.Kind != b.Kind:
		return ErrUnlike
	case !a.Fits() || !b.Fits():
		return ErrMany
	case a.Kind == api.TypeFun:
		return s.functions(a, b)
	}
	return nil
}

func (s *Set) functions(a, b *shape.Shape) error {
	if err := s.One(a.A, b.A); err != nil {
		return &part{"what they take", err}
	}
	if err := s.OneRow(a.Row, b.Row); err != nil {
		return &part{"their rows", err}
	}
	if err := s.One(a.B, b.B); err != nil {
		return &part{"what they give", err}
	}
	return nil
}

// OneRow makes two rows one.
func (s *Set) OneRow(a, b api.Row) error {
	a, b = s.UnderRow(a), s.UnderRow(b)
	made, ok := rows.Unify(a, b, s.fresh)
	if !ok {
		return ErrUnlike
	}
	if !rows.CountsMay(a) || !rows.CountsMay(b) || s.fresh >= api.MaxVars {
		return ErrMany
	}
	if len(made) == 2 {
		s.fresh++
	}
	for _, b := range made {
		if err := s.bindTail(b.Var, b.Row); err != nil {
			return err
		}
	}
	return nil
}

func (s *Set) bind(v int, t *shape.Shape) error {
	occurs := false
	t.Visit(func(other int) { occurs = occurs || other == v }, func(int) {})
	if occurs {
		return ErrOccurs
	}
	if !t.Fits() {
		return ErrMany
	}
	typeOf := func(other int) (*shape.Shape, bool) { return t, other == v }
	rowOf := func(int) (api.Row, bool) { return api.Row{}, false }
	err := s.put(typeOf, rowOf)
	s.types[v] = t
	s.made = append(s.made, variable{v, false})
	return err
}

func (s *Set) bindTail(tail int, r api.Row) error {
	typeOf := func(int) (*shape.Shape, bool) { return nil, false }
	rowOf := func(other int) (api.Row, bool) { return r, other == tail }
	err := s.put(typeOf, rowOf)
	s.tails[tail] = r
	s.made = append(s.made, variable{tail, true})
	return err
}

// put puts a new bind into all that are there.
func (s *Set) put(typeOf func(v int) (*shape.Shape, bool), rowOf func(tail int) (api.Row, bool)) error {
	for _, v := range s.made {
		if v.isRow {
			r := shape.PutRow(s.tails[v.number], rowOf)
			if !rows.CountsMay(r) {
				return ErrMany
			}
			s.tails[v.number] = r
			continue
		}
		t := s.types[v.number].Put(typeOf, rowOf)
		if !t.Fits() {
			return ErrMany
		}
		s.types[v.number] = t
	}
	return nil
}
