package tree

import (
	"slices"
	"strings"
	"testing"

	"trammel/api"
)

// sample is a named tree with a node of each kind.
func sample() []api.Node {
	return []api.Node{
		{Kind: api.NodeVar, Name: "f"},                           // 0
		{Kind: api.NodeInt, Num: 7},                              // 1
		{Kind: api.NodeApp, A: 0, B: 1},                          // 2
		{Kind: api.NodeBool, Num: 1},                             // 3
		{Kind: api.NodeInt, Num: 1},                              // 4
		{Kind: api.NodeVar, Name: "x"},                           // 5
		{Kind: api.NodePrim, Num: api.PrimDiv, A: 4, B: 5},       // 6
		{Kind: api.NodeIf, A: 2, B: 3, C: 6},                     // 7
		{Kind: api.NodeDo, Name: "get", A: 7},                    // 8
		{Kind: api.NodeVar, Name: "y"},                           // 9
		{Kind: api.NodeFun, X: "z", A: 9},                        // 10
		{Kind: api.NodeLet, X: "a", A: 8, B: 10},                 // 11
		{Kind: api.NodeVar, Name: "k"},                           // 12
		{Kind: api.NodeInt, Num: 2},                              // 13
		{Kind: api.NodeRec, X: "g", Y: "h", A: 12, B: 13, At: 9}, // 14
		{Kind: api.NodeInt, Num: 3},                              // 15
		{Kind: api.NodeHandle, Name: "get", X: "v", Y: "k", Z: "r", A: 11, B: 14, C: 15}, // 16
	}
}

// bare is a tree without names.
func bare(ns []api.Node) []api.Node {
	for i := range ns {
		n := &ns[i]
		n.Name, n.X, n.Y, n.Z = "", "", "", ""
	}
	return ns
}

func change(f func(ns []api.Node)) []api.Node {
	ns := sample()
	f(ns)
	return ns
}

func TestMay(t *testing.T) {
	op := func(name string) api.Op { return api.Op{Name: name, From: api.TypeInt, To: api.TypeBool} }
	ops := []api.Op{op("a"), op("a"), op("c"), op("d")}
	if !May(api.Program{Ops: ops, Nodes: sample()}) || !May(api.Program{Nodes: sample()}) {
		t.Fatal("the sample may not be")
	}
	for _, bad := range [][]api.Op{
		{op("a"), op("b"), op("c"), op("d"), op("e")},
		{op("")},
		{op("A")},
		{op("fun")},
		{op(" a")},
		{op("a b")},
		{op(strings.Repeat("a", api.MaxName+1))},
		{{Name: "a", From: api.TypeVar}},
		{{Name: "a", To: api.TypeFun}},
		{{Name: "a", From: -1}},
	} {
		if May(api.Program{Ops: bad, Nodes: sample()}) {
			t.Errorf("operations %v may be", bad)
		}
	}
	for prim := api.PrimAdd; prim <= api.PrimLess; prim++ {
		if !May(api.Program{Nodes: change(func(ns []api.Node) { ns[6].Num = prim })}) {
			t.Errorf("prim %d may not be", prim)
		}
	}
	if May(api.Program{Nodes: bare(sample())}) || May(api.Program{}) {
		t.Error("a tree without names, or none, is named")
	}
	if !May(api.Program{Nodes: []api.Node{{Kind: api.NodeInt, At: api.MaxText, Num: api.MaxInt}}}) {
		t.Error("the greatest number may not be")
	}
}

// P3.1: each field that is not as it must be makes a row of nodes no tree.
func TestNoTree(t *testing.T) {
	for i, f := range []func(ns []api.Node){
		func(ns []api.Node) { ns[0].Name = "" },
		func(ns []api.Node) { ns[0].Name = "let" },
		func(ns []api.Node) { ns[0].Name = "x y" },
		func(ns []api.Node) { ns[0].Name = "x#" },
		func(ns []api.Node) { ns[0].Name = "1" },
		func(ns []api.Node) { ns[0].Num = 1 },
		func(ns []api.Node) { ns[0].X = "x" },
		func(ns []api.Node) { ns[0].A = 1 },
		func(ns []api.Node) { ns[1].Num = -1 },
		func(ns []api.Node) { ns[1].Num = api.MaxInt + 1 },
		func(ns []api.Node) { ns[1].Name = "x" },
		func(ns []api.Node) { ns[1].At = -1 },
		func(ns []api.Node) { ns[1].At = api.MaxText + 1 },
		func(ns []api.Node) { ns[1].Kind = -1 },
		func(ns []api.Node) { ns[1].Kind = api.NodeHandle + 1 },
		func(ns []api.Node) { ns[2].C = 1 },
		func(ns []api.Node) { ns[2].Num = 1 },
		func(ns []api.Node) { ns[2].A = 1 },
		func(ns []api.Node) { ns[2].B = 0 },
		func(ns []api.Node) { ns[3].Num = 2 },
		func(ns []api.Node) { ns[3].Num = -1 },
		func(ns []api.Node) { ns[6].Num = api.PrimLess + 1 },
		func(ns []api.Node) { ns[6].Num = -1 },
		func(ns []api.Node) { ns[7].A = 1 },
		func(ns []api.Node) { ns[7].B = 2 },
		func(ns []api.Node) { ns[7].C = 5 },
		func(ns []api.Node) { ns[7].Name = "x" },
		func(ns []api.Node) { ns[8].Name = "" },
		func(ns []api.Node) { ns[8].Num = 1 },
		func(ns []api.Node) { ns[8].B = 1 },
		func(ns []api.Node) { ns[10].X = "" },
		func(ns []api.Node) { ns[10].Y = "y" },
		func(ns []api.Node) { ns[11].X = "rec" },
		func(ns []api.Node) { ns[14].Y = "" },
		func(ns []api.Node) { ns[14].Z = "z" },
		func(ns []api.Node) { ns[16].Z = "" },
		func(ns []api.Node) { ns[16].Name = "" },
		func(ns []api.Node) { ns[16].Num = 1 },
		func(ns []api.Node) { ns[16].A = 16 },
		func(ns []api.Node) { ns[16].C = 1 << 60 },
	} {
		ns := change(f)
		if May(api.Program{Nodes: ns}) {
			t.Errorf("change %d: may be", i)
		}
		if d, e := Depth(ns, 16); d != 0 || e != api.ErrTreeForm {
			t.Errorf("change %d: Depth %d, %d", i, d, e)
		}
		if part, e := Part(ns, 16); part != nil || e != api.ErrTreeForm {
			t.Errorf("change %d: Part %v, %d", i, part, e)
		}
	}
	if _, e := Depth(sample()[:16], 15); e != api.ErrTreeForm {
		t.Error("the last node's part need not be all")
	}
}

func TestDepth(t *testing.T) {
	want := []int{1, 1, 2, 1, 1, 1, 2, 3, 4, 1, 2, 5, 1, 1, 2, 1, 6}
	for _, ns := range [][]api.Node{sample(), bare(sample())} {
		for at := range ns {
			if d, e := Depth(ns, at); d != want[at] || e != api.OK {
				t.Errorf("Depth at %d = %d, %d, want %d", at, d, e, want[at])
			}
		}
		for _, at := range []int{-1, 17, 1 << 60, -1 << 63} {
			if d, e := Depth(ns, at); d != 0 || e != api.ErrTreeForm {
				t.Errorf("Depth at %d = %d, %d", at, d, e)
			}
		}
	}
}

func TestResolvedNumbers(t *testing.T) {
	ns := bare(sample())
	ns[0].Num, ns[8].Num, ns[16].Num = 1<<40, 3, -5
	if _, e := Depth(ns, 16); e != api.OK {
		t.Error("a resolved tree's numbers are of layer 6, not of layer 3")
	}
	ns[10].X = "z"
	if _, e := Depth(ns, 16); e != api.ErrTreeForm {
		t.Error("one name alone makes a tree neither named nor resolved")
	}
}

func TestPart(t *testing.T) {
	ns := sample()
	part, e := Part(ns, 7)
	if e != api.OK || !slices.Equal(part, ns[:8]) {
		t.Errorf("Part at 7 = %v, %d", part, e)
	}
	part, e = Part(ns, 14)
	want := []api.Node{{Kind: api.NodeVar, Name: "k"}, {Kind: api.NodeInt, Num: 2},
		{Kind: api.NodeRec, X: "g", Y: "h", A: 0, B: 1, At: 9}}
	if e != api.OK || !slices.Equal(part, want) {
		t.Errorf("Part at 14 = %v, %d", part, e)
	}
	apart := append([]api.Node{{Kind: api.NodeInt}}, ns[3:6]...)
	apart = append(apart, api.Node{Kind: api.NodeIf, A: 1, B: 2, C: 3}, api.Node{Kind: api.NodeApp, A: 0, B: 4})
	choice, e := Part(apart, 4)
	want = []api.Node{ns[3], ns[4], ns[5], {Kind: api.NodeIf, A: 0, B: 1, C: 2}}
	if e != api.OK || !slices.Equal(choice, want) {
		t.Errorf("Part at 4 = %v, %d", choice, e)
	}
	part[0].Name = "changed"
	if ns[12].Name != "k" {
		t.Error("the part shares memory with the tree")
	}
	for at := range ns {
		part, e := Part(ns, at)
		if e != api.OK || !May(api.Program{Nodes: part}) {
			t.Errorf("Part at %d = %v, %d", at, part, e)
		}
	}
	if part, e := Part(ns, -1); part != nil || e != api.ErrTreeForm {
		t.Errorf("Part at -1 = %v, %d", part, e)
	}
}

func TestSame(t *testing.T) {
	a, b := sample(), sample()
	for i := range b {
		b[i].At = i
	}
	if !Same(a, b) || !Same(nil, []api.Node{}) {
		t.Error("places in a text are looked at")
	}
	for i, f := range []func(n *api.Node){
		func(n *api.Node) { n.Kind++ },
		func(n *api.Node) { n.A++ },
		func(n *api.Node) { n.B++ },
		func(n *api.Node) { n.C++ },
		func(n *api.Node) { n.Num++ },
		func(n *api.Node) { n.Name += "x" },
		func(n *api.Node) { n.X += "x" },
		func(n *api.Node) { n.Y += "x" },
		func(n *api.Node) { n.Z += "x" },
	} {
		c := sample()
		f(&c[i])
		if Same(a, c) {
			t.Errorf("change %d is not seen", i)
		}
	}
	if Same(a, a[:16]) || Same(a[:16], a) || a[3].At != 0 || b[3].At != 3 {
		t.Error("lengths are not looked at, or what is handed in is changed")
	}
}

func TestGreatestTree(t *testing.T) {
	var ns []api.Node
	for i := range api.MaxNodes {
		ns = append(ns, api.Node{Kind: api.NodeFun, X: "x", A: i - 1})
	}
	ns[0] = api.Node{Kind: api.NodeInt}
	if d, e := Depth(ns, api.MaxNodes-1); d != api.MaxNodes || e != api.OK {
		t.Errorf("%d, %d", d, e)
	}
	ns = append(ns, api.Node{Kind: api.NodeFun, X: "x", A: api.MaxNodes - 1})
	if May(api.Program{Nodes: ns}) {
		t.Error("a node too many")
	}
}
