// Package rows holds what the layers of types and of rows share about rows (DOC.md, chapter 8).
package rows

import (
	"strconv"
	"strings"

	"trammel/api"
)

// May tells whether r is a row.
func May(r api.Row) bool {
	return CountsMay(r) && r.Tail >= -1 && r.Tail < api.MaxVars
}

// CountsMay tells whether each operation stands in r no more often than it may, and not less than not
// at all.
func CountsMay(r api.Row) bool {
	for _, count := range r.Counts {
		if count < 0 || count > api.MaxCount {
			return false
		}
	}
	return true
}

// Text is a row's, with this number for its tail.
func Text(r api.Row, tail int) string {
	var ops []string
	for op, count := range r.Counts {
		for range count {
			ops = append(ops, "o"+strconv.Itoa(op))
		}
	}
	text := "<" + strings.Join(ops, ",")
	if r.Tail >= 0 {
		text += "|e" + strconv.Itoa(tail)
	}
	return text + ">"
}
