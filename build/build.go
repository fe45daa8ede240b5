// Package build makes programs and types for tests. What it is handed must be right: else it panics.
package build

import (
	"trammel/api"
	"trammel/parse"
	"trammel/scope"
	"trammel/typ"
)

// Program is a text's program, resolved.
func Program(s string) api.Program {
	p, _, e := parse.Parse(s)
	if e != api.OK {
		panic(e)
	}
	p, _, e = scope.Resolve(p)
	if e != api.OK {
		panic(e)
	}
	return p
}

// Of is the type of these nodes.
func Of(nodes ...api.TyNode) api.Type { return api.Type{Nodes: nodes} }

// Base is int or bool.
func Base(kind int) api.Type { return Of(api.TyNode{Kind: kind}) }

// Int is int.
func Int() api.Type { return Base(api.TypeInt) }

// Bool is bool.
func Bool() api.Type { return Base(api.TypeBool) }

// Var is a type variable.
func Var(v int) api.Type { return Of(api.TyNode{Kind: api.TypeVar, Var: v}) }

// Row is a row of these counts, from the first operation on.
func Row(tail int, counts ...int) api.Row {
	r := api.Row{Tail: tail}
	copy(r.Counts[:], counts)
	return r
}

// Fun is a function's type.
func Fun(a api.Type, r api.Row, b api.Type) api.Type {
	f, e := typ.Fun(a, r, b)
	if e != api.OK {
		panic(e)
	}
	return f
}

// Pure is the type of a function that does no operations.
func Pure(a, b api.Type) api.Type { return Fun(a, Row(-1), b) }
