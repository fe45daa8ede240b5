package target

import (
	"slices"
	"testing"

	"trammel/api"
)

// sample is a term with a node of each kind.
func sample() []api.Target {
	return []api.Target{
		{Kind: api.TgtVar, Num: 3},                                            // 0
		{Kind: api.TgtInt, Num: 5},                                            // 1
		{Kind: api.TgtOp, Num: 3, A: 0, B: 1},                                 // 2
		{Kind: api.TgtBool, Num: 1},                                           // 3
		{Kind: api.TgtFun, X: 4, A: 3},                                        // 4
		{Kind: api.TgtRet, A: 4},                                              // 5
		{Kind: api.TgtVar, Num: 2},                                            // 6
		{Kind: api.TgtCase, A: 2, X: 1, B: 5, Num: 2, Y: 5, Z: 6, C: 6, W: 7}, // 7
		{Kind: api.TgtFix, X: 8, Y: 9, A: 7},                                  // 8
		{Kind: api.TgtInt},                                                    // 9
		{Kind: api.TgtApp, A: 8, B: 9},                                        // 10
		{Kind: api.TgtInt, Num: api.MaxInt},                                   // 11
		{Kind: api.TgtPrim, Num: api.PrimLess, A: 10, B: 11},                  // 12
		{Kind: api.TgtVar},                                                    // 13
		{Kind: api.TgtLet, X: 2, A: 12, B: 13},                                // 14
		{Kind: api.TgtBool},                                                   // 15
		{Kind: api.TgtVar, Num: 1},                                            // 16
		{Kind: api.TgtIf, A: 14, B: 15, C: 16},                                // 17
		{Kind: api.TgtInt, Num: 1},                                            // 18
		{Kind: api.TgtBind, A: 17, X: 0, B: 18},                               // 19
	}
}

func TestMay(t *testing.T) {
	if !May(sample()) {
		t.Fatal("the sample may not be")
	}
	for _, at := range []int{2, 7, 12} {
		ts := sample()
		ts[at].Num = 0
		if !May(ts) {
			t.Errorf("node %d may not have 0", at)
		}
	}
	for i, f := range []func(ts []api.Target){
		func(ts []api.Target) { ts[0].Num = -1 },
		func(ts []api.Target) { ts[0].Num = api.MaxTargets },
		func(ts []api.Target) { ts[0].X = 1 },
		func(ts []api.Target) { ts[1].Num = -1 },
		func(ts []api.Target) { ts[1].Num = api.MaxInt + 1 },
		func(ts []api.Target) { ts[1].A = 1 },
		func(ts []api.Target) { ts[1].W = 1 },
		func(ts []api.Target) { ts[1].Kind = -1 },
		func(ts []api.Target) { ts[1].Kind = 13 },
		func(ts []api.Target) { ts[2].Num = -1 },
		func(ts []api.Target) { ts[2].Num = api.MaxOps },
		func(ts []api.Target) { ts[2].X = 1 },
		func(ts []api.Target) { ts[2].A = 1 },
		func(ts []api.Target) { ts[2].B = 0 },
		func(ts []api.Target) { ts[3].Num = 2 },
		func(ts []api.Target) { ts[3].Num = -1 },
		func(ts []api.Target) { ts[4].X = -1 },
		func(ts []api.Target) { ts[4].X = api.MaxTargets },
		func(ts []api.Target) { ts[4].Num = 1 },
		func(ts []api.Target) { ts[4].B = 1 },
		func(ts []api.Target) { ts[5].X = 1 },
		func(ts []api.Target) { ts[5].A = 3 },
		func(ts []api.Target) { ts[7].Num = api.MaxOps },
		func(ts []api.Target) { ts[7].X = -1 },
		func(ts []api.Target) { ts[7].Y = api.MaxTargets },
		func(ts []api.Target) { ts[7].Z = -1 },
		func(ts []api.Target) { ts[7].W = api.MaxTargets },
		func(ts []api.Target) { ts[7].A = 1 },
		func(ts []api.Target) { ts[7].B = 4 },
		func(ts []api.Target) { ts[7].C = 5 },
		func(ts []api.Target) { ts[8].Y = -1 },
		func(ts []api.Target) { ts[8].Z = 1 },
		func(ts []api.Target) { ts[10].Num = 1 },
		func(ts []api.Target) { ts[10].C = 1 },
		func(ts []api.Target) { ts[12].Num = api.PrimLess + 1 },
		func(ts []api.Target) { ts[12].Num = -1 },
		func(ts []api.Target) { ts[14].Y = 1 },
		func(ts []api.Target) { ts[14].X = -1 },
		func(ts []api.Target) { ts[17].Num = 1 },
		func(ts []api.Target) { ts[17].X = 1 },
		func(ts []api.Target) { ts[19].X = api.MaxTargets },
		func(ts []api.Target) { ts[19].A = 16 },
		func(ts []api.Target) { ts[19].W = 1 },
		func(ts []api.Target) { ts[19].B = 1 << 60 },
	} {
		ts := sample()
		f(ts)
		if May(ts) {
			t.Errorf("%d: may be", i)
		}
		if n, e := Names(ts); n != 0 || e != api.ErrTargetForm {
			t.Errorf("%d: %d, %d", i, n, e)
		}
	}
	for _, ts := range [][]api.Target{nil, {}, sample()[:2], sample()[1:]} {
		if n, e := Names(ts); May(ts) || n != 0 || e != api.ErrTargetForm {
			t.Errorf("%v: %d, %d", ts, n, e)
		}
	}
}

// P19.1: each field that holds a name may hold the greatest one.
func TestNames(t *testing.T) {
	if n, e := Names(sample()); n != 10 || e != api.OK {
		t.Errorf("%d, %d", n, e)
	}
	if n, e := Names([]api.Target{{Kind: api.TgtInt, Num: 7}}); n != 0 || e != api.OK {
		t.Errorf("%d, %d", n, e)
	}
	for i, f := range []func(ts []api.Target) *int{
		func(ts []api.Target) *int { return &ts[0].Num },
		func(ts []api.Target) *int { return &ts[4].X },
		func(ts []api.Target) *int { return &ts[7].X },
		func(ts []api.Target) *int { return &ts[7].Y },
		func(ts []api.Target) *int { return &ts[7].Z },
		func(ts []api.Target) *int { return &ts[7].W },
		func(ts []api.Target) *int { return &ts[8].X },
		func(ts []api.Target) *int { return &ts[8].Y },
		func(ts []api.Target) *int { return &ts[14].X },
		func(ts []api.Target) *int { return &ts[19].X },
	} {
		ts := sample()
		*f(ts) = api.MaxTargets - 1
		was := slices.Clone(ts)
		if n, e := Names(ts); n != api.MaxTargets || e != api.OK || !slices.Equal(ts, was) {
			t.Errorf("%d: %d, %d", i, n, e)
		}
	}
}

func TestGreatestTerm(t *testing.T) {
	ts := []api.Target{{Kind: api.TgtInt}}
	for len(ts) < api.MaxTargets {
		ts = append(ts, api.Target{Kind: api.TgtRet, A: len(ts) - 1})
	}
	if n, e := Names(ts); !May(ts) || n != 0 || e != api.OK {
		t.Errorf("%d, %d", n, e)
	}
	if May(append(ts, api.Target{Kind: api.TgtRet, A: len(ts) - 1})) {
		t.Error("a node too many")
	}
}
