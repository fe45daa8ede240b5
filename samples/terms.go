package samples

import (
	"trammel/api"
)

// Term makes a target term of about so many nodes; names in it may be bound to nothing.
func Term(random *Random, size int) []api.Target {
	return term(random, size, nil)
}

func term(random *Random, size int, ts []api.Target) []api.Target {
	name := func() int { return random.Below(5) }
	n := api.Target{Kind: random.Below(api.TgtFun)}
	if size > 1 {
		n.Kind = api.TgtFun + random.Below(api.TgtCase-api.TgtFun+1)
	}
	children := 2
	switch n.Kind {
	case api.TgtVar:
		n.Num, children = name(), 0
	case api.TgtInt:
		n.Num, children = random.Below(4), 0
	case api.TgtBool:
		n.Num, children = random.Below(2), 0
	case api.TgtFun:
		n.X, children = name(), 1
	case api.TgtFix:
		n.X, n.Y, children = name(), name(), 1
	case api.TgtRet:
		children = 1
	case api.TgtLet, api.TgtBind:
		n.X = name()
	case api.TgtPrim:
		n.Num = random.Below(api.PrimLess + 1)
	case api.TgtOp:
		n.Num = random.Below(api.MaxOps)
	case api.TgtIf:
		children = 3
	case api.TgtCase:
		n.X, n.Num, n.Y, n.Z, n.W, children = name(), random.Below(api.MaxOps), name(), name(), name(), 3
	}
	for i, child := range []*int{&n.A, &n.B, &n.C}[:children] {
		ts = term(random, (size-1)/children+i%2, ts)
		*child = len(ts) - 1
	}
	return append(ts, n)
}
