// Package samples makes programs for tests: the same seed makes the same programs.
package samples

import (
	"slices"
	"strconv"

	"trammel/api"
)

// Random is a row of numbers that hangs on where it begins.
type Random uint64

// Below is the next number, from 0 below n.
func (r *Random) Below(n int) int {
	*r = *r*6364136223846793005 + 1442695040888963407
	return int(uint64(*r) >> 33 % uint64(n))
}

// maker puts nodes behind those that are there.
type maker struct {
	random *Random
	nodes  []api.Node
	ops    []api.Op
}

// Scoped makes a program of about so many nodes, in which each name is bound; it need not have a type.
func Scoped(random *Random, size int) api.Program {
	m := maker{random: random, ops: Operations(random)}
	m.expr(size, nil)
	return api.Program{Ops: m.ops, Nodes: m.nodes}
}

// Operations makes some operations, no two of one name.
func Operations(random *Random) []api.Op {
	var ops []api.Op
	for i := range random.Below(api.MaxOps + 1) {
		ops = append(ops, api.Op{Name: "o" + strconv.Itoa(i), From: random.Below(2), To: random.Below(2)})
	}
	return ops
}

func (m *maker) node(n api.Node) int {
	n.At = m.random.Below(api.MaxText + 1)
	m.nodes = append(m.nodes, n)
	return len(m.nodes) - 1
}

// fresh is a name; there are few, so that some hide others.
func (m *maker) fresh() string { return string(rune('a' + m.random.Below(6))) }

// expr makes a part of about so many nodes where these names are bound.
func (m *maker) expr(size int, bound []string) int {
	if size <= 1 {
		return m.leaf(bound)
	}
	in := func(names ...string) []string { return slices.Concat(bound, names) }
	x, y, z := m.fresh(), m.fresh(), m.fresh()
	half, third := (size-1)/2, (size-1)/3
	kind := api.NodeFun + m.random.Below(api.NodeHandle-api.NodeFun+1)
	if len(m.ops) == 0 && (kind == api.NodeDo || kind == api.NodeHandle) {
		kind = api.NodeApp
	}
	n := api.Node{Kind: kind}
	switch kind {
	case api.NodeFun:
		n.X, n.A = x, m.expr(size-1, in(x))
	case api.NodeApp:
		n.A = m.expr(half, bound)
		n.B = m.expr(half, bound)
	case api.NodeLet:
		n.X, n.A = x, m.expr(half, bound)
		n.B = m.expr(half, in(x))
	case api.NodeRec:
		n.X, n.Y, n.A = x, y, m.expr(half, in(x, y))
		n.B = m.expr(half, in(x))
	case api.NodeIf:
		n.A = m.expr(third, bound)
		n.B = m.expr(third, bound)
		n.C = m.expr(third, bound)
	case api.NodePrim:
		n.Num, n.A = m.random.Below(api.PrimLess+1), m.expr(half, bound)
		n.B = m.expr(half, bound)
	case api.NodeDo:
		n.Name, n.A = m.operation(), m.expr(size-1, bound)
	case api.NodeHandle:
		n.Name, n.X, n.Y, n.Z, n.A = m.operation(), x, y, z, m.expr(third, bound)
		n.B = m.expr(third, in(x, y))
		n.C = m.expr(third, in(z))
	}
	return m.node(n)
}

func (m *maker) operation() string { return m.ops[m.random.Below(len(m.ops))].Name }

func (m *maker) leaf(bound []string) int {
	if len(bound) > 0 && m.random.Below(3) > 0 {
		return m.node(api.Node{Kind: api.NodeVar, Name: bound[m.random.Below(len(bound))]})
	}
	if m.random.Below(4) == 0 {
		return m.node(api.Node{Kind: api.NodeBool, Num: m.random.Below(2)})
	}
	return m.node(api.Node{Kind: api.NodeInt, Num: m.random.Below(4)})
}
