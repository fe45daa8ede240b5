package run

import (
	"trammel/api"
	"trammel/env"
)

// The kinds of values.
const (
	number = iota
	truth
	// function: of the node num, a TgtFun or TgtFix, with what is bound there.
	function
	// bindsOn: what comes of the function of is bound by the node num, a TgtBind, with what is bound there.
	bindsOn
	// goesOn: what comes of the function of is given to the function on.
	goesOn
	// ret: a computation that returns of.
	ret
	// op: a computation that does the operation num with of, and goes on with the function on.
	op
)

type value struct {
	kind  int
	num   int
	bound env.List[value]
	of    *value
	on    *value
}

// through is an operation that goes on with another function.
func (v value) through(f value) value {
	v.on = &f
	return v
}

// outcome is what a term tells whose value this is.
func (v value) outcome() api.Outcome {
	if v.kind != ret {
		return api.Outcome{Kind: api.OutStuck}
	}
	switch v.of.kind {
	case number:
		return api.Outcome{Kind: api.OutInt, Num: v.of.num}
	case truth:
		return api.Outcome{Kind: api.OutBool, Num: v.of.num}
	case function, bindsOn, goesOn:
		return api.Outcome{Kind: api.OutFun}
	}
	return api.Outcome{Kind: api.OutStuck}
}
