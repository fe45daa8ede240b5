package hsem

import (
	"trammel/env"
)

// frame is a node whose A, or B, is looked for: then it has its A's value.
type frame struct {
	node     int
	bound    env.List[value]
	hasFirst bool
	value    value
}

// link is a frame and those below it.
type link struct {
	frame
	below *link
}

// segment is a handler's frame with the frames atop of it, up to the next handler's. The lowest
// segment of a stack has no handler.
type segment struct {
	handler   frame
	isHandler bool
	op        int
	top       *link
	// count is how many frames there are.
	count int
}

// stack is what frames there are: the last segment, and all below it.
type stack struct {
	segment
	below *segments
}

// Frames is how many there are.
func (s *stack) Frames() int { return s.count + s.below.frames() }

func (s *stack) push(f frame) {
	s.top = &link{f, s.top}
	s.count++
}

// pushHandler begins a segment.
func (s *stack) pushHandler(f frame, op int) {
	s.below = join(s.below, alone(s.segment))
	s.segment = segment{handler: f, isHandler: true, op: op, count: 1}
}

// pop takes the top frame, which is there.
func (s *stack) pop() frame {
	if s.top == nil {
		f := s.handler
		s.below, s.segment = s.below.last()
		return f
	}
	f := s.top.frame
	s.top = s.top.below
	s.count--
	return f
}

// take takes all frames from the nearest handler's of an operation on.
func (s *stack) take(op int) (frame, *segments, bool) {
	below, taken := s.below, alone(s.segment)
	if !taken.has(op) {
		if !below.has(op) {
			return frame{}, nil, false
		}
		rest, from := below.cut(op)
		below, taken = rest, join(from, taken)
	}
	s.below, s.segment = below.last()
	return taken.first().handler, taken, true
}

// resume puts frames atop.
func (s *stack) resume(frames *segments) {
	lower, top := frames.last()
	s.below, s.segment = join(join(s.below, alone(s.segment)), lower), top
}
