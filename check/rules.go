package check

import (
	"trammel/api"
	"trammel/row"
	"trammel/scheme"
	"trammel/shape"
)

// isRooted tells whether the root's row is empty; each other node's may be any.
func (k *checker) isRooted(node int) bool {
	return node < len(k.nodes)-1 || k.marks[node].Row == api.Row{Tail: -1}
}

// isKnown tells whether all variables of a node's mark are known, but for those that it is closed
// over: none of these may be.
func (k *checker) isKnown(node int, here place) bool {
	m := k.marks[node]
	for _, v := range m.Vars {
		if here.types.has(v) {
			return false
		}
	}
	for _, v := range m.Rows {
		if here.tails.has(v) {
			return false
		}
	}
	inside := here.knowing(m)
	for _, t := range m.Types {
		if !inside.knows(t) {
			return false
		}
	}
	for _, r := range m.Takes {
		if !here.knowsRow(r) {
			return false
		}
	}
	return here.knows(m.Type) && here.knowsRow(m.Row)
}

func (p *place) knows(t api.Type) bool {
	for _, n := range t.Nodes {
		if n.Kind == api.TypeVar && !p.types.has(n.Var) || n.Kind == api.TypeFun && !p.knowsRow(n.Row) {
			return false
		}
	}
	return true
}

func (p *place) knowsRow(r api.Row) bool { return r.Tail < 0 || p.tails.has(r.Tail) }

// isOwn tells whether a mark has only what its node's kind has.
func isOwn(n api.Node, m api.Mark) bool {
	isVar, isRec := n.Kind == api.NodeVar, n.Kind == api.NodeRec
	return (isRec || n.Kind == api.NodeLet || len(m.Vars)+len(m.Rows) == 0) &&
		(isVar || len(m.Takes) == 0) && (isVar || isRec || len(m.Types) == 0)
}

// rule tells whether the rule of a node's kind is met.
func (k *checker) rule(node int, here place) bool {
	n := k.nodes[node]
	switch n.Kind {
	case api.NodeVar:
		return k.variable(node, here)
	case api.NodeInt:
		return k.is(node, api.TypeInt)
	case api.NodeBool:
		return k.is(node, api.TypeBool)
	case api.NodeFun:
		t := k.types[node]
		return t.Kind == api.TypeFun && shape.Same(k.types[n.A], t.B) && k.marks[n.A].Row == t.Row
	case api.NodeApp:
		f := shape.Fun(k.types[n.B], k.marks[node].Row, k.types[node])
		return k.areAtRow(node, n.A, n.B) && shape.Same(k.types[n.A], f)
	case api.NodeLet:
		return k.areAtRow(node, n.B) && k.areSame(node, n.B) && (isValue(k.nodes[n.A]) || k.isOpen(node))
	case api.NodeRec:
		return k.areAtRow(node, n.B) && k.areSame(node, n.B) && len(k.marks[node].Types) == 1 && k.recursive(node).Fits()
	case api.NodeIf:
		return k.areAtRow(node, n.A, n.B, n.C) && k.is(n.A, api.TypeBool) && k.areSame(node, n.B, n.C)
	case api.NodePrim:
		gives := api.TypeInt
		if n.Num == api.PrimEq || n.Num == api.PrimLess {
			gives = api.TypeBool
		}
		return k.areAtRow(node, n.A, n.B) && k.is(n.A, api.TypeInt) && k.is(n.B, api.TypeInt) && k.is(node, gives)
	case api.NodeDo:
		op := k.ops[n.Num]
		return k.areAtRow(node, n.A) && k.is(n.A, op.From) && k.is(node, op.To) && k.marks[node].Row.Counts[n.Num] > 0
	}
	inside, e := row.With(k.marks[node].Row, n.Num)
	return e == api.OK && k.marks[n.A].Row == inside && k.areAtRow(node, n.B, n.C) &&
		k.areSame(node, n.B, n.C) && k.continuation(node).Fits()
}

// is tells whether a node's type is int, or bool.
func (k *checker) is(node, kind int) bool { return k.types[node].Kind == kind }

// areAtRow tells whether children have a node's row.
func (k *checker) areAtRow(node int, children ...int) bool {
	for _, child := range children {
		if k.marks[child].Row != k.marks[node].Row {
			return false
		}
	}
	return true
}

// areSame tells whether children have a node's type.
func (k *checker) areSame(node int, children ...int) bool {
	for _, child := range children {
		if !shape.Same(k.types[child], k.types[node]) {
			return false
		}
	}
	return true
}

// variable tells whether a NodeVar's type is what it takes of what is bound.
func (k *checker) variable(node int, here place) bool {
	b, m := here.bound[len(here.bound)-1-k.nodes[node].Num], k.marks[node]
	t, e := scheme.Take(api.Scheme{Vars: b.vars, Rows: b.rows, Type: b.is.Type()}, m.Types, m.Takes)
	return e == api.OK && shape.Same(shape.Of(t), k.types[node])
}

// isValue tells whether what a NodeLet binds may be closed over variables.
func isValue(n api.Node) bool {
	switch n.Kind {
	case api.NodeVar, api.NodeInt, api.NodeBool, api.NodeFun:
		return true
	}
	return false
}

// isOpen tells whether a NodeLet is closed over nothing, and what it binds is at its row.
func (k *checker) isOpen(node int) bool {
	m := k.marks[node]
	return k.areAtRow(node, k.nodes[node].A) && len(m.Vars)+len(m.Rows) == 0
}
