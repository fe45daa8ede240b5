package hsem

// segments are some segments of a stack, the lowest one first, as a balanced tree whose leaves they
// are: so they are cut and joined in few steps, however many there are. Nobody changes a tree that is
// made, as a continuation may be gone on with more than once. No segments are nil.
type segments struct {
	lower  *segments
	upper  *segments
	leaf   *segment
	height int
	count  int
	// ops has a bit for each operation that a handler in it is of.
	ops uint
}

func alone(s segment) *segments {
	t := &segments{leaf: &s, count: s.count}
	if s.isHandler {
		t.ops = 1 << s.op
	}
	return t
}

func pair(lower, upper *segments) *segments {
	return &segments{
		lower:  lower,
		upper:  upper,
		height: max(lower.height, upper.height) + 1,
		count:  lower.count + upper.count,
		ops:    lower.ops | upper.ops,
	}
}

func (t *segments) isLeaf() bool { return t.height == 0 }

func (t *segments) frames() int {
	if t == nil {
		return 0
	}
	return t.count
}

func (t *segments) has(op int) bool { return t != nil && t.ops>>op&1 == 1 }

// join is all segments of both.
func join(lower, upper *segments) *segments {
	switch {
	case lower == nil:
		return upper
	case upper == nil:
		return lower
	case lower.height > upper.height+1:
		return balance(lower.lower, join(lower.upper, upper))
	case upper.height > lower.height+1:
		return balance(join(lower, upper.lower), upper.upper)
	}
	return pair(lower, upper)
}

// balance is a pair of trees whose heights are apart by two at most.
func balance(lower, upper *segments) *segments {
	switch {
	case lower.height > upper.height+1 && lower.lower.height >= lower.upper.height:
		return pair(lower.lower, pair(lower.upper, upper))
	case lower.height > upper.height+1:
		return pair(pair(lower.lower, lower.upper.lower), pair(lower.upper.upper, upper))
	case upper.height > lower.height+1 && upper.upper.height >= upper.lower.height:
		return pair(pair(lower, upper.lower), upper.upper)
	case upper.height > lower.height+1:
		return pair(pair(lower, upper.lower.lower), pair(upper.lower.upper, upper.upper))
	}
	return pair(lower, upper)
}

// last takes the last segment off; of no segments it is one without frames.
func (t *segments) last() (*segments, segment) {
	if t == nil {
		return nil, segment{}
	}
	if t.isLeaf() {
		return nil, *t.leaf
	}
	rest, s := t.upper.last()
	return join(t.lower, rest), s
}

// first is the first segment.
func (t *segments) first() segment {
	for !t.isLeaf() {
		t = t.lower
	}
	return *t.leaf
}

// cut parts the segments below the last handler of an operation, which is there, from the others.
func (t *segments) cut(op int) (*segments, *segments) {
	if t.isLeaf() {
		return nil, t
	}
	if t.upper.has(op) {
		below, from := t.upper.cut(op)
		return join(t.lower, below), from
	}
	below, from := t.lower.cut(op)
	return below, join(from, t.upper)
}
