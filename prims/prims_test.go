package prims

import (
	"testing"

	"trammel/api"
)

func TestApply(t *testing.T) {
	const most, least = api.MaxInt, -api.MaxInt - 1
	num := func(n int) api.Outcome { return api.Outcome{Kind: api.OutInt, Num: n} }
	is := func(n int) api.Outcome { return api.Outcome{Kind: api.OutBool, Num: n} }
	over := api.Outcome{Kind: api.OutFault, Num: api.FaultOver}
	zero := api.Outcome{Kind: api.OutFault, Num: api.FaultZero}
	for _, c := range []struct {
		prim, u, v int
		want       api.Outcome
	}{
		{api.PrimAdd, 1, 2, num(3)},
		{api.PrimAdd, most, 0, num(most)},
		{api.PrimAdd, most, 1, over},
		{api.PrimAdd, least, -1, over},
		{api.PrimSub, 1, 2, num(-1)},
		{api.PrimSub, -most, 1, num(least)},
		{api.PrimSub, -most, 2, over},
		{api.PrimMul, -3, 5, num(-15)},
		{api.PrimMul, most, most, over},
		{api.PrimMul, least, least, over},
		{api.PrimMul, 1 << 15, -1 << 15, num(least)},
		{api.PrimMul, 1 << 15, 1 << 15, over},
		{api.PrimDiv, 7, 2, num(3)},
		{api.PrimDiv, -7, 2, num(-3)},
		{api.PrimDiv, 7, -2, num(-3)},
		{api.PrimDiv, -7, -2, num(3)},
		{api.PrimDiv, 0, 5, num(0)},
		{api.PrimDiv, least, -1, over},
		{api.PrimDiv, least, 1, num(least)},
		{api.PrimDiv, 1, 0, zero},
		{api.PrimDiv, 0, 0, zero},
		{api.PrimEq, 2, 2, is(1)},
		{api.PrimEq, 2, -2, is(0)},
		{api.PrimLess, -2, 2, is(1)},
		{api.PrimLess, 2, 2, is(0)},
		{api.PrimLess, 3, 2, is(0)},
	} {
		if got := Apply(c.prim, c.u, c.v); got != c.want {
			t.Errorf("Apply(%d, %d, %d) = %v, want %v", c.prim, c.u, c.v, got, c.want)
		}
	}
}
