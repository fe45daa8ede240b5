// Package shape holds types whose nodes are linked: nobody changes a node that is made, so types share
// what they have in common, and putting types for variables makes anew only what changes.
package shape

import (
	"trammel/api"
	"trammel/rows"
)

// Shape is a type's node with all that stands in it.
type Shape struct {
	Kind int
	Var  int
	A    *Shape
	B    *Shape
	Row  api.Row
	// Size is how many nodes there are.
	Size int
	// counts tells whether no count is above the limit.
	counts bool
}

// Int is the type of numbers.
func Int() *Shape { return &Shape{Kind: api.TypeInt, Size: 1, counts: true} }

// Bool is the type of truths.
func Bool() *Shape { return &Shape{Kind: api.TypeBool, Size: 1, counts: true} }

// Base is the type of numbers or of truths.
func Base(kind int) *Shape {
	if kind == api.TypeBool {
		return Bool()
	}
	return Int()
}

// Var is a variable.
func Var(v int) *Shape { return &Shape{Kind: api.TypeVar, Var: v, Size: 1, counts: true} }

// Fun is the type of a function that takes an a and gives a b.
func Fun(a *Shape, r api.Row, b *Shape) *Shape {
	return &Shape{
		Kind:   api.TypeFun,
		A:      a,
		B:      b,
		Row:    r,
		Size:   a.Size + b.Size + 1,
		counts: a.counts && b.counts && rows.CountsMay(r),
	}
}

// Of is the shape of a type that may be.
func Of(t api.Type) *Shape {
	made := make([]*Shape, 0, len(t.Nodes))
	for _, n := range t.Nodes {
		switch n.Kind {
		case api.TypeFun:
			made = append(made, Fun(made[n.A], n.Row, made[n.B]))
		case api.TypeVar:
			made = append(made, Var(n.Var))
		default:
			made = append(made, Base(n.Kind))
		}
	}
	return made[len(made)-1]
}

// Fits tells whether a shape is that of a type that may be.
func (s *Shape) Fits() bool {
	return s.Size <= api.MaxTypes && s.counts
}

// Type is a shape's type, in memory of its own.
func (s *Shape) Type() api.Type {
	return api.Type{Nodes: s.flat(make([]api.TyNode, 0, s.Size))}
}

func (s *Shape) flat(nodes []api.TyNode) []api.TyNode {
	if s.Kind != api.TypeFun {
		return append(nodes, api.TyNode{Kind: s.Kind, Var: s.Var})
	}
	nodes = s.A.flat(nodes)
	a := len(nodes) - 1
	nodes = s.B.flat(nodes)
	return append(nodes, api.TyNode{Kind: api.TypeFun, A: a, B: len(nodes) - 1, Row: s.Row})
}

// Put is a shape with types for type variables and rows for tails, at once; a variable of which a
// function does not tell what it is stays.
func (s *Shape) Put(typeOf func(v int) (*Shape, bool), rowOf func(tail int) (api.Row, bool)) *Shape {
	switch s.Kind {
	case api.TypeVar:
		if t, ok := typeOf(s.Var); ok {
			return t
		}
	case api.TypeFun:
		a, r, b := s.A.Put(typeOf, rowOf), PutRow(s.Row, rowOf), s.B.Put(typeOf, rowOf)
		if a != s.A || r != s.Row || b != s.B {
			return Fun(a, r, b)
		}
	}
	return s
}

// PutRow is a row with a row for its tail.
func PutRow(r api.Row, rowOf func(tail int) (api.Row, bool)) api.Row {
	if r.Tail < 0 {
		return r
	}
	rest, ok := rowOf(r.Tail)
	if !ok {
		return r
	}
	for op, count := range r.Counts {
		rest.Counts[op] += count
	}
	return rest
}

// Visit shows each variable and each tail, as often as it stands there, by their appearance.
func (s *Shape) Visit(variable, tail func(v int)) {
	switch s.Kind {
	case api.TypeVar:
		variable(s.Var)
	case api.TypeFun:
		s.A.Visit(variable, tail)
		if s.Row.Tail >= 0 {
			tail(s.Row.Tail)
		}
		s.B.Visit(variable, tail)
	}
}

// Same tells whether two shapes are those of one type.
func Same(a, b *Shape) bool {
	if a == b {
		return true
	}
	if a.Kind != b.Kind || a.Size != b.Size || a.Var != b.Var || a.Row != b.Row {
		return false
	}
	return a.Kind != api.TypeFun || Same(a.A, b.A) && Same(a.B, b.B)
}
