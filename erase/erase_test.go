package erase

import (
	"reflect"
	"testing"

	"trammel/api"
	"trammel/elab"
	"trammel/samples"
	"trammel/scope"
)

// P16.1: what layer 14 makes of a program is the program without its marks.
func TestErase(t *testing.T) {
	random := samples.Random(19)
	for range 500 {
		p, _ := samples.Typed(&random, 1+random.Below(60))
		p, _, _ = scope.Resolve(p)
		c, _, e := elab.Core(p)
		if e != api.OK {
			continue
		}
		got, e := Erase(c)
		if e != api.OK || !reflect.DeepEqual(got, p) {
			t.Fatalf("%v, %d, want %v", got, e, p)
		}
		got.Nodes[0].At++
		if len(got.Ops) > 0 {
			got.Ops[0].Name = "changed"
		}
		if !reflect.DeepEqual(c.Nodes, p.Nodes) || len(c.Ops) > 0 && c.Ops[0].Name == "changed" {
			t.Fatal("what is answered shares memory with what is handed in")
		}
	}
}

// sample is a core of a number: the type of it may be wrong, as long as it may be.
func sample(kind int) api.Core {
	return api.Core{
		Nodes: []api.Node{{Kind: api.NodeInt, Num: 5, At: 9}},
		Marks: []api.Mark{{Type: api.Type{Nodes: []api.TyNode{{Kind: kind}}}, Row: api.Row{Tail: -1}}},
	}
}

func TestForm(t *testing.T) {
	for _, kind := range []int{api.TypeInt, api.TypeBool, api.TypeVar} {
		c := sample(kind)
		if got, e := Erase(c); e != api.OK || !reflect.DeepEqual(got, api.Program{Nodes: c.Nodes}) {
			t.Errorf("%v, %d", got, e)
		}
	}
	for i, change := range []func(c *api.Core){
		func(c *api.Core) { c.Marks = nil },
		func(c *api.Core) { c.Marks = append(c.Marks, c.Marks[0]) },
		func(c *api.Core) { c.Nodes = nil },
		func(c *api.Core) { c.Nodes[0].Num = -1 },
		func(c *api.Core) { c.Ops = make([]api.Op, 1) },
		func(c *api.Core) { c.Marks[0].Type = api.Type{} },
		func(c *api.Core) { c.Marks[0].Row.Tail = -2 },
		func(c *api.Core) { c.Marks[0].Vars = []int{1, 1} },
		func(c *api.Core) { c.Marks[0].Rows = []int{-1} },
		func(c *api.Core) { c.Marks[0].Types = make([]api.Type, 1) },
		func(c *api.Core) { c.Marks[0].Takes = []api.Row{{Tail: api.MaxVars}} },
	} {
		c := sample(api.TypeInt)
		change(&c)
		if got, e := Erase(c); got.Nodes != nil || got.Ops != nil || e != api.ErrEraseForm {
			t.Errorf("%d: %v, %d", i, got, e)
		}
	}
}
