// Package parts tells where the parts of nodes begin that stand in a row, children ahead of their
// parent: programs, types and target terms all stand so (DOC.md, chapter 3).
package parts

// Children are the places of a node's children, in their row.
type Children struct {
	Count int
	At    [3]int
}

// Of makes children of at most three places.
func Of(places ...int) Children {
	var c Children
	c.Count = copy(c.At[:], places)
	return c
}

// Begins tells for each of n nodes where its part begins; false, if a child does not stand where it
// must, or the last node's part is not all.
func Begins(n int, children func(at int) Children) ([]int, bool) {
	begins := make([]int, n)
	for at := range n {
		c := children(at)
		begin := at
		for i := c.Count - 1; i >= 0; i-- {
			child := begin - 1
			if child < 0 || c.At[i] != child {
				return nil, false
			}
			begin = begins[child]
		}
		begins[at] = begin
	}
	return begins, n > 0 && begins[n-1] == 0
}
