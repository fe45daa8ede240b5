package infer

import (
	"slices"
)

// variables are some of one sort, each once.
type variables struct {
	all []int
	met map[int]int
}

func newVariables() *variables {
	return &variables{met: make(map[int]int)}
}

// without makes a function that adds each variable that it is shown, but for some.
func (vs *variables) without(some []int) func(v int) {
	return func(v int) {
		if _, met := vs.met[v]; met || slices.Contains(some, v) {
			return
		}
		vs.met[v] = len(vs.all)
		vs.all = append(vs.all, v)
	}
}

// lookup makes a function that tells what stands where a variable does.
func lookup[T any](vars []int, taken []T) func(v int) (T, bool) {
	return func(v int) (T, bool) {
		i := slices.Index(vars, v)
		if i < 0 {
			var none T
			return none, false
		}
		return taken[i], true
	}
}
