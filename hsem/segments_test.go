package hsem

import (
	"slices"
	"testing"

	"trammel/samples"
)

// leaves checks a tree's heights and counts, and tells the operations of its segments.
func leaves(t *testing.T, s *segments) []int {
	t.Helper()
	if s == nil {
		return nil
	}
	if s.isLeaf() {
		return []int{s.leaf.op}
	}
	apart := s.lower.height - s.upper.height
	if apart < -1 || apart > 1 || s.count != s.lower.count+s.upper.count || s.height != max(s.lower.height, s.upper.height)+1 {
		t.Fatalf("heights %d and %d below %d", s.lower.height, s.upper.height, s.height)
	}
	return slices.Concat(leaves(t, s.lower), leaves(t, s.upper))
}

// pairOf is a tree and the list that it is to be.
type pairOf struct {
	tree *segments
	list []int
}

func (p pairOf) check(t *testing.T) {
	t.Helper()
	if got := leaves(t, p.tree); !slices.Equal(got, p.list) || (p.tree == nil) != (len(p.list) == 0) {
		t.Fatalf("%v, want %v", got, p.list)
	}
}

// cut cuts a pair, if it can be, and holds both parts against those of its list.
func (p pairOf) cut(t *testing.T, op int) (pairOf, pairOf) {
	t.Helper()
	at := len(p.list) - 1
	for at >= 0 && p.list[at] != op {
		at--
	}
	if p.tree == nil || !p.tree.has(op) {
		if at >= 0 {
			t.Fatalf("%v has no %d", p.list, op)
		}
		return p, pairOf{}
	}
	below, from := p.tree.cut(op)
	if from.first().op != op {
		t.Fatalf("%v is first", from.first())
	}
	return pairOf{below, p.list[:at]}, pairOf{from, p.list[at:]}
}

// Trees that are cut, joined and made smaller hold what lists do.
func TestSegments(t *testing.T) {
	random := samples.Random(21)
	pairs := make([]pairOf, 30)
	for range 5000 {
		i, j, op := random.Below(len(pairs)), random.Below(len(pairs)), random.Below(4)
		switch random.Below(5) {
		case 0:
			leaf := alone(segment{isHandler: true, op: op, count: 1 + op})
			pairs[i] = pairOf{join(pairs[i].tree, leaf), slices.Concat(pairs[i].list, []int{op})}
		case 1, 2:
			if len(pairs[i].list)+len(pairs[j].list) < 400 {
				pairs[i] = pairOf{join(pairs[i].tree, pairs[j].tree), slices.Concat(pairs[i].list, pairs[j].list)}
			}
		case 3:
			pairs[i], pairs[j] = pairs[i].cut(t, op)
		case 4:
			rest, last := pairs[i].tree.last()
			many := len(pairs[i].list)
			if many == 0 {
				continue
			}
			if last.op != pairs[i].list[many-1] {
				t.Fatalf("%v is last of %v", last, pairs[i].list)
			}
			pairs[i] = pairOf{rest, pairs[i].list[:many-1]}
		}
		pairs[i].check(t)
		pairs[j].check(t)
	}
	if rest, last := (*segments)(nil).last(); rest != nil || last.isHandler || last.count != 0 {
		t.Errorf("%v, %v of nothing", rest, last)
	}
}
