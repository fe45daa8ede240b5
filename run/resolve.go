package run

import (
	"trammel/api"
)

// resolver finds what the names of a term mean: what is bound at a node hangs on where it stands
// alone, so that this need not be looked for in each step.
type resolver struct {
	nodes   []api.Target
	further []int
	// levels tells of each name how many names were bound when it was bound last.
	levels map[int]int
}

// resolve tells for each TgtVar's name, and each TgtCase's W, how many names are bound further in; -1:
// nothing has that name.
func resolve(ts []api.Target) []int {
	r := resolver{nodes: ts, further: make([]int, len(ts)), levels: make(map[int]int)}
	r.walk(len(ts)-1, 0)
	return r.further
}

// walk goes over a node's part, where so many names are bound.
func (r *resolver) walk(at, bound int) {
	n := r.nodes[at]
	switch n.Kind {
	case api.TgtVar:
		r.further[at] = r.find(n.Num, bound)
	case api.TgtFun:
		r.under(n.A, bound, n.X)
	case api.TgtFix:
		r.under(n.A, bound, n.X, n.Y)
	case api.TgtRet:
		r.walk(n.A, bound)
	case api.TgtLet, api.TgtBind:
		r.walk(n.A, bound)
		r.under(n.B, bound, n.X)
	case api.TgtCase:
		r.further[at] = r.find(n.W, bound)
		r.walk(n.A, bound)
		r.under(n.B, bound, n.X)
		r.under(n.C, bound, n.Y, n.Z)
	case api.TgtIf:
		r.walk(n.C, bound)
		fallthrough
	case api.TgtApp, api.TgtPrim, api.TgtOp:
		r.walk(n.A, bound)
		r.walk(n.B, bound)
	}
}

// under goes over a part where more names are bound, the last one furthest in.
func (r *resolver) under(at, bound int, names ...int) {
	if len(names) == 0 {
		r.walk(at, bound)
		return
	}
	name := names[0]
	level, hidden := r.levels[name]
	r.levels[name] = bound
	r.under(at, bound+1, names[1:]...)
	if hidden {
		r.levels[name] = level
	} else {
		delete(r.levels, name)
	}
}

func (r *resolver) find(name, bound int) int {
	level, ok := r.levels[name]
	if !ok {
		return -1
	}
	return bound - 1 - level
}
