package binds

import (
	"errors"
	"testing"

	"trammel/api"
	"trammel/shape"
)

func row(tail int, counts ...int) api.Row {
	r := api.Row{Tail: tail}
	copy(r.Counts[:], counts)
	return r
}

// Rows that get too great under the binds are refused, whichever side they stand on; that they are
// unlike is told first.
func TestRowsTooGreat(t *testing.T) {
	for i, c := range []struct {
		a, b api.Row
		want error
	}{
		{row(0, 32), row(5), ErrMany},
		{row(5), row(0, 32), ErrMany},
		{row(0, 32), row(-1, 32), ErrUnlike},
		{row(0, 31), row(5), nil},
		{row(5), row(0, 31), nil},
	} {
		s := New(9)
		if err := s.OneRow(row(0), row(1, 1)); err != nil {
			t.Fatal(err)
		}
		if err := s.OneRow(c.a, c.b); !errors.Is(err, c.want) {
			t.Errorf("%d: %v, want %v", i, err, c.want)
		}
	}
}

func TestNewTail(t *testing.T) {
	s := New(api.MaxVars - 2)
	for want := api.MaxVars - 2; want < api.MaxVars; want++ {
		if got, err := s.NewTail(); got != want || err != nil {
			t.Errorf("%d, %v, want %d", got, err, want)
		}
	}
	if _, err := s.NewTail(); !errors.Is(err, ErrMany) {
		t.Errorf("%v", err)
	}
	if err := s.OneRow(row(-1), row(-1)); !errors.Is(err, ErrMany) {
		t.Errorf("rows are made one, though no row variable is left: %v", err)
	}
	if err := s.OneRow(row(-1), row(-1, 1)); !errors.Is(err, ErrUnlike) {
		t.Errorf("%v", err)
	}
	if err := s.One(shape.Var(0), shape.Int()); err != nil {
		t.Errorf("types without rows are not made one: %v", err)
	}
}

// What keeps two types from being one is told of the part in which it is.
func TestPart(t *testing.T) {
	f := shape.Fun(shape.Int(), row(-1), shape.Fun(shape.Int(), row(-1), shape.Int()))
	g := shape.Fun(shape.Int(), row(-1), shape.Fun(shape.Bool(), row(-1), shape.Int()))
	err := New(0).One(f, g)
	if !errors.Is(err, ErrUnlike) || err.Error() != "what they give: what they take: they are unlike" {
		t.Errorf("%v", err)
	}
}
