// Package env holds what is bound: lists to which many may add, each for himself, and in which what is
// bound far out is found soon.
package env

// List is a list of things that are bound, one behind the other. Its trees' sizes are as in a skew
// binary number: a new thing makes one tree of the first two, if these are of one size.
type List[T any] struct {
	first *part[T]
}

// part is a full tree, and what is bound further out than all that is in it.
type part[T any] struct {
	size int
	tree *tree[T]
	out  *part[T]
}

// tree has the thing that is bound furthest in as its root.
type tree[T any] struct {
	thing T
	in    *tree[T]
	out   *tree[T]
}

// With is a list with a thing more, which is furthest in.
func (l List[T]) With(thing T) List[T] {
	p := l.first
	if p == nil || p.out == nil || p.size != p.out.size {
		return List[T]{&part[T]{1, &tree[T]{thing: thing}, p}}
	}
	both := &tree[T]{thing, p.tree, p.out.tree}
	return List[T]{&part[T]{2*p.size + 1, both, p.out.out}}
}

// At is the thing further in than which so many others are; false: there are not that many.
func (l List[T]) At(further int) (T, bool) {
	for p := l.first; p != nil; p = p.out {
		if further >= 0 && further < p.size {
			return p.tree.at(further, p.size), true
		}
		further -= p.size
	}
	var none T
	return none, false
}

func (t *tree[T]) at(further, size int) T {
	for further > 0 {
		size /= 2
		if further <= size {
			t, further = t.in, further-1
		} else {
			t, further = t.out, further-1-size
		}
	}
	return t.thing
}
