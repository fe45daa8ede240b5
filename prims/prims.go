// Package prims tells what comes of a prim: the machines of layers 17 and 21 and layer 25 share it
// (DOC.md, chapter 17).
package prims

import (
	"trammel/api"
)

// Apply is what comes of a prim with two numbers: a number, a truth, or a fault.
func Apply(prim, u, v int) api.Outcome {
	a, b := int64(u), int64(v)
	switch prim {
	case api.PrimAdd:
		return number(a + b)
	case api.PrimSub:
		return number(a - b)
	case api.PrimMul:
		return number(a * b)
	case api.PrimDiv:
		if b == 0 {
			return api.Outcome{Kind: api.OutFault, Num: api.FaultZero}
		}
		return number(a / b)
	case api.PrimEq:
		return truth(a == b)
	}
	return truth(a < b)
}

func number(n int64) api.Outcome {
	if n < -api.MaxInt-1 || n > api.MaxInt {
		return api.Outcome{Kind: api.OutFault, Num: api.FaultOver}
	}
	return api.Outcome{Kind: api.OutInt, Num: int(n)}
}

func truth(is bool) api.Outcome {
	if is {
		return api.Outcome{Kind: api.OutBool, Num: 1}
	}
	return api.Outcome{Kind: api.OutBool}
}
