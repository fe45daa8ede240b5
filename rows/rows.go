// Package rows holds what the layers of types and of rows share about rows (DOC.md, chapter 8).
package rows

import (
	"strconv"
	"strings"

	"trammel/api"
)

// May tells whether r is a row.
func May(r api.Row) bool {
	return CountsMay(r) && r.Tail >= -1 && r.Tail < api.MaxVars
}

// CountsMay tells whether each operation stands in r no more often than it may, and not less than not
// at all.
func CountsMay(r api.Row) bool {
	for _, count := range r.Counts {
		if count < 0 || count > api.MaxCount {
			return false
		}
	}
	return true
}

// Text is a row's, with this number for its tail.
func Text(r api.Row, tail int) string {
	var ops []string
	for op, count := range r.Counts {
		for range count {
			ops = append(ops, "o"+strconv.Itoa(op))
		}
	}
	text := "<" + strings.Join(ops, ",")
	if r.Tail >= 0 {
		text += "|e" + strconv.Itoa(tail)
	}
	return text + ">"
}

// Counts says how often each operation stands in a row.
type Counts [api.MaxOps]int

// Unify tells what the tails of a and b are, that a and b be one, or that they cannot be.
func Unify(a, b api.Row, fresh int) ([]api.Bind, bool) {
	onlyA, onlyB := more(a, b), more(b, a)
	none := Counts{}
	switch {
	case a.Tail == b.Tail:
		return nil, onlyA == none && onlyB == none
	case b.Tail < 0 && onlyA != none, a.Tail < 0 && onlyB != none:
		return nil, false
	case b.Tail < 0, a.Tail >= 0 && onlyA == none:
		return []api.Bind{bind(a.Tail, onlyB, b.Tail)}, true
	case a.Tail < 0, onlyB == none:
		return []api.Bind{bind(b.Tail, onlyA, a.Tail)}, true
	}
	return []api.Bind{bind(a.Tail, onlyB, fresh), bind(b.Tail, onlyA, fresh)}, true
}

// more is what a has more of each operation than b.
func more(a, b api.Row) Counts {
	var left Counts
	for op := range left {
		left[op] = max(a.Counts[op]-b.Counts[op], 0)
	}
	return left
}

func bind(tail int, counts Counts, rest int) api.Bind {
	return api.Bind{Var: tail, IsRow: true, Row: api.Row{Counts: counts, Tail: rest}}
}
