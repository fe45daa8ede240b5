package parts

import (
	"slices"
	"testing"
)

func begins(nodes ...Children) ([]int, bool) {
	return Begins(len(nodes), func(at int) Children { return nodes[at] })
}

func TestBegins(t *testing.T) {
	got, ok := begins(Of(), Of(), Of(1), Of(0, 2), Of(), Of(), Of(3, 4, 5))
	if want := []int{0, 1, 1, 0, 4, 5, 0}; !ok || !slices.Equal(got, want) {
		t.Errorf("%v, %v, want %v", got, ok, want)
	}
	if got, ok := begins(Of()); !ok || !slices.Equal(got, []int{0}) {
		t.Errorf("%v, %v", got, ok)
	}
}

func TestNoTree(t *testing.T) {
	for _, nodes := range [][]Children{
		{},
		{Of(), Of()},
		{Of(0)},
		{Of(-1)},
		{Of(), Of(1)},
		{Of(), Of(), Of(0)},
		{Of(), Of(), Of(1, 0)},
		{Of(), Of(), Of(0, 0)},
		{Of(), Of(0, 0)},
		{Of(), Of(), Of(1), Of(1, 2)},
		{Of(), Of(1 << 62)},
	} {
		if _, ok := begins(nodes...); ok {
			t.Errorf("%v is a tree", nodes)
		}
	}
}
