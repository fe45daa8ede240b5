package samples

import (
	"slices"
	"strconv"

	"trammel/api"
)

// goal is a type that something is made of.
type goal struct {
	kind int
	a, b *goal
	row  api.Row
}

func (g *goal) is(other *goal) bool {
	if g.kind != other.kind || g.row != other.row {
		return false
	}
	return g.kind != api.TypeFun || g.a.is(other.a) && g.b.is(other.b)
}

func (g *goal) flat(nodes []api.TyNode) []api.TyNode {
	if g.kind != api.TypeFun {
		return append(nodes, api.TyNode{Kind: g.kind})
	}
	nodes = g.a.flat(nodes)
	a := len(nodes) - 1
	nodes = g.b.flat(nodes)
	return append(nodes, api.TyNode{Kind: api.TypeFun, A: a, B: len(nodes) - 1, Row: g.row})
}

// has is a name that is bound to something; same: to what gives what it takes, of any type and row.
type has struct {
	name string
	goal *goal
	same bool
}

// typist makes programs that have a type.
type typist struct {
	maker
	names int
}

// Typed makes a program of about so many nodes, and a type without variables that it has.
func Typed(random *Random, size int) (api.Program, api.Type) {
	t := typist{maker: maker{random: random, ops: Operations(random)}}
	g := t.goal(2)
	t.make(g, api.Row{Tail: -1}, size, nil)
	return api.Program{Ops: t.ops, Nodes: t.nodes}, api.Type{Nodes: g.flat(nil)}
}

func (t *typist) name() string {
	t.names++
	return "v" + strconv.Itoa(t.names)
}

// goal makes a type of at most some functions in one another.
func (t *typist) goal(functions int) *goal {
	if functions == 0 || t.random.Below(3) > 0 {
		return &goal{kind: t.random.Below(2)}
	}
	return &goal{kind: api.TypeFun, a: t.goal(functions - 1), b: t.goal(functions - 1), row: t.row()}
}

// row makes a row without a tail of the operations that there are.
func (t *typist) row() api.Row {
	r := api.Row{Tail: -1}
	for op := range t.ops {
		r.Counts[op] = max(t.random.Below(4)-1, 0)
	}
	return r
}

// make makes a part of a type where a row is allowed and some names are bound.
func (t *typist) make(g *goal, r api.Row, size int, bound []has) int {
	if size <= 1 {
		return t.least(g, bound)
	}
	half := (size - 1) / 2
	switch t.random.Below(9) {
	case 0:
		return t.app(g, r, half, bound)
	case 1:
		return t.let(g, r, half, bound)
	case 2:
		return t.rec(g, r, half, bound)
	case 3:
		a := t.make(&goal{kind: api.TypeBool}, r, size/3, bound)
		b := t.make(g, r, size/3, bound)
		return t.node(api.Node{Kind: api.NodeIf, A: a, B: b, C: t.make(g, r, size/3, bound)})
	case 4:
		return t.handle(g, r, size/3, bound)
	case 5, 6:
		return t.do(g, r, size, bound)
	}
	return t.plain(g, r, size, bound)
}

// with is some names and more.
func with(bound []has, more ...has) []has { return slices.Concat(bound, more) }

// least makes a part that is as small as its type lets it be.
func (t *typist) least(g *goal, bound []has) int {
	var fit []string
	for _, h := range bound {
		if h.same && g.kind == api.TypeFun && g.a.is(g.b) || !h.same && h.goal.is(g) {
			fit = append(fit, h.name)
		}
	}
	switch {
	case len(fit) > 0 && t.random.Below(5) > 0:
		return t.node(api.Node{Kind: api.NodeVar, Name: fit[t.random.Below(len(fit))]})
	case g.kind == api.TypeInt:
		return t.node(api.Node{Kind: api.NodeInt, Num: t.random.Below(5)})
	case g.kind == api.TypeBool:
		return t.node(api.Node{Kind: api.NodeBool, Num: t.random.Below(2)})
	}
	return t.function(g, 1, bound)
}

// function makes a function of a function's type.
func (t *typist) function(g *goal, size int, bound []has) int {
	x := t.name()
	return t.node(api.Node{Kind: api.NodeFun, X: x, A: t.make(g.b, g.row, size, with(bound, has{x, g.a, false}))})
}

// plain makes what a type asks for by itself.
func (t *typist) plain(g *goal, r api.Row, size int, bound []has) int {
	if g.kind == api.TypeFun {
		return t.function(g, size-1, bound)
	}
	num := t.random.Below(api.PrimDiv + 1)
	if g.kind == api.TypeBool {
		num = api.PrimEq + t.random.Below(2)
	}
	number := &goal{kind: api.TypeInt}
	a := t.make(number, r, (size-1)/2, bound)
	return t.node(api.Node{Kind: api.NodePrim, Num: num, A: a, B: t.make(number, r, (size-1)/2, bound)})
}

func (t *typist) app(g *goal, r api.Row, size int, bound []has) int {
	a := t.goal(1)
	f := t.make(&goal{kind: api.TypeFun, a: a, b: g, row: r}, r, size, bound)
	return t.node(api.Node{Kind: api.NodeApp, A: f, B: t.make(a, r, size, bound)})
}

func (t *typist) let(g *goal, r api.Row, size int, bound []has) int {
	x := t.name()
	if t.random.Below(3) == 0 {
		a := t.node(api.Node{Kind: api.NodeVar, Name: "same"})
		a = t.node(api.Node{Kind: api.NodeFun, X: "same", A: a})
		return t.node(api.Node{Kind: api.NodeLet, X: x, A: a, B: t.make(g, r, size, with(bound, has{name: x, same: true}))})
	}
	is := t.goal(2)
	a := t.make(is, r, size, bound)
	return t.node(api.Node{Kind: api.NodeLet, X: x, A: a, B: t.make(g, r, size, with(bound, has{x, is, false}))})
}

func (t *typist) rec(g *goal, r api.Row, size int, bound []has) int {
	f, x := t.name(), t.name()
	is := &goal{kind: api.TypeFun, a: t.goal(1), b: t.goal(1), row: t.row()}
	if t.random.Below(2) == 0 {
		is.row = r
	}
	a := t.make(is.b, is.row, size, with(bound, has{f, is, false}, has{x, is.a, false}))
	b := t.make(g, r, size, with(bound, has{f, is, false}))
	return t.node(api.Node{Kind: api.NodeRec, X: f, Y: x, A: a, B: b})
}

// do makes an operation, if one is allowed that gives what is asked for.
func (t *typist) do(g *goal, r api.Row, size int, bound []has) int {
	var fit []int
	for op := range t.ops {
		if r.Counts[op] > 0 && t.ops[op].To == g.kind {
			fit = append(fit, op)
		}
	}
	if len(fit) == 0 {
		return t.handle(g, r, size/3, bound)
	}
	op := t.ops[fit[t.random.Below(len(fit))]]
	return t.node(api.Node{Kind: api.NodeDo, Name: op.Name, A: t.make(&goal{kind: op.From}, r, size-1, bound)})
}

func (t *typist) handle(g *goal, r api.Row, size int, bound []has) int {
	if len(t.ops) == 0 {
		return t.app(g, r, size, bound)
	}
	num := t.random.Below(len(t.ops))
	op, inside, value := t.ops[num], r, t.goal(1)
	inside.Counts[num] = min(inside.Counts[num]+1, api.MaxCount)
	if inside == r {
		return t.least(g, bound)
	}
	x, y, z := t.name(), t.name(), t.name()
	on := &goal{kind: api.TypeFun, a: &goal{kind: op.To}, b: g, row: r}
	a := t.make(value, inside, size, bound)
	b := t.make(g, r, size, with(bound, has{x, &goal{kind: op.From}, false}, has{y, on, false}))
	c := t.make(g, r, size, with(bound, has{z, value, false}))
	return t.node(api.Node{Kind: api.NodeHandle, Name: op.Name, X: x, Y: y, Z: z, A: a, B: b, C: c})
}
