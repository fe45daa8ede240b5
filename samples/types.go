package samples

import (
	"trammel/api"
)

// Shape says what types are made: of about Size nodes, with type variables below Vars, tails below
// Tails (0: none), counts below Counts.
type Shape struct {
	Size   int
	Vars   int
	Tails  int
	Counts int
}

// Type makes a type.
func Type(random *Random, shape Shape) api.Type {
	return api.Type{Nodes: grow(random, shape, shape.Size, nil)}
}

// Row makes a row.
func Row(random *Random, shape Shape) api.Row {
	r := api.Row{Tail: -1}
	for op := range r.Counts {
		if random.Below(3) == 0 {
			r.Counts[op] = random.Below(shape.Counts)
		}
	}
	if shape.Tails > 0 && random.Below(3) > 0 {
		r.Tail = random.Below(shape.Tails)
	}
	return r
}

func grow(random *Random, shape Shape, size int, nodes []api.TyNode) []api.TyNode {
	if size < 3 {
		n := api.TyNode{Kind: random.Below(api.TypeVar + 1)}
		if n.Kind == api.TypeVar && shape.Vars == 0 {
			n.Kind = api.TypeInt
		}
		if n.Kind == api.TypeVar {
			n.Var = random.Below(shape.Vars)
		}
		return append(nodes, n)
	}
	first := 1 + random.Below(size-2)
	nodes = grow(random, shape, first, nodes)
	a := len(nodes) - 1
	nodes = grow(random, shape, size-1-first, nodes)
	return append(nodes, api.TyNode{Kind: api.TypeFun, A: a, B: len(nodes) - 1, Row: Row(random, shape)})
}
