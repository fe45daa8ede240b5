package row

import (
	"reflect"
	"testing"

	"trammel/api"
	"trammel/samples"
)

func of(tail int, counts ...int) api.Row {
	r := api.Row{Tail: tail}
	copy(r.Counts[:], counts)
	return r
}

func bad() []api.Row {
	return []api.Row{of(-2), of(api.MaxVars), of(1<<63 - 1), of(-1, -1), of(-1, 0, 33), of(0, 0, 0, 0, -5), of(3, 0, 0, 1<<62)}
}

// P8.1: what may be, and its text.
func TestText(t *testing.T) {
	for _, c := range []struct {
		r    api.Row
		want string
	}{
		{of(-1), "<>"},
		{of(0), "<|e0>"},
		{of(api.MaxVars - 1), "<|e0>"},
		{of(-1, 1), "<o0>"},
		{of(5, 0, 0, 0, 2), "<o3,o3|e0>"},
		{of(5, 1, 2, 0, 1), "<o0,o1,o1,o3|e0>"},
		{api.Row{}, "<|e0>"},
	} {
		if got, e := Text(c.r); got != c.want || e != api.OK || !May(c.r) {
			t.Errorf("Text(%v) = %q, %d, want %q", c.r, got, e, c.want)
		}
	}
	if !May(of(-1, 32, 32, 32, 32)) {
		t.Error("the greatest row may not be")
	}
	for _, r := range bad() {
		if got, e := Text(r); got != "" || e != api.ErrRowForm || May(r) {
			t.Errorf("Text(%v) = %q, %d", r, got, e)
		}
	}
}

// P8.2: an operation once more.
func TestWith(t *testing.T) {
	for op := range api.MaxOps {
		r := of(3, 1, 2, 31, 0)
		want := r
		want.Counts[op]++
		if got, e := With(r, op); got != want || e != api.OK {
			t.Errorf("With(%v, %d) = %v, %d", r, op, got, e)
		}
	}
	for _, c := range []struct {
		r  api.Row
		op int
	}{{of(-1), -1}, {of(-1), api.MaxOps}, {of(-1, 0, 32), 1}, {of(-2), 0}, {of(-1, 0, 33), 0}, {of(-1), 1 << 40}} {
		if got, e := With(c.r, c.op); got != (api.Row{}) || e != api.ErrRowForm {
			t.Errorf("With(%v, %d) = %v, %d", c.r, c.op, got, e)
		}
	}
}

func tail(v int, r api.Row) api.Bind { return api.Bind{Var: v, IsRow: true, Row: r} }

// P8.3: each case of two rows.
func TestUnify(t *testing.T) {
	for _, c := range []struct {
		a, b  api.Row
		fresh int
		want  []api.Bind
		e     api.Errno
	}{
		{of(-1), of(-1), 0, nil, api.OK},
		{of(-1, 1, 2), of(-1, 1, 2), 0, nil, api.OK},
		{of(4, 1), of(4, 1), 5, nil, api.OK},
		{of(4, 1), of(4, 2), 5, nil, api.ErrRowUnlike},
		{of(4, 2), of(4, 1), 5, nil, api.ErrRowUnlike},
		{of(-1, 1), of(-1), 0, nil, api.ErrRowUnlike},
		{of(-1), of(-1, 0, 1), 0, nil, api.ErrRowUnlike},
		{of(2, 1), of(-1), 3, nil, api.ErrRowUnlike},
		{of(-1), of(2, 1), 3, nil, api.ErrRowUnlike},
		{of(2, 1), of(-1, 0, 1), 3, nil, api.ErrRowUnlike},
		{of(2), of(-1), 3, []api.Bind{tail(2, of(-1))}, api.OK},
		{of(2, 1), of(-1, 3, 1), 3, []api.Bind{tail(2, of(-1, 2, 1))}, api.OK},
		{of(-1, 3, 1), of(2, 1), 3, []api.Bind{tail(2, of(-1, 2, 1))}, api.OK},
		{of(2), of(7), 8, []api.Bind{tail(2, of(7))}, api.OK},
		{of(7), of(2), 8, []api.Bind{tail(7, of(2))}, api.OK},
		{of(0), of(1, 1), 2, []api.Bind{tail(0, of(1, 1))}, api.OK},
		{of(1, 1), of(0), 2, []api.Bind{tail(0, of(1, 1))}, api.OK},
		{of(0, 1, 2), of(1, 1, 1, 1), 9, []api.Bind{tail(0, of(9, 0, 0, 1)), tail(1, of(9, 0, 1))}, api.OK},
		{of(1, 32), of(0, 0, 32), 4095, []api.Bind{tail(1, of(4095, 0, 32)), tail(0, of(4095, 32))}, api.OK},
		{of(-1), of(-1), -1, nil, api.ErrRowForm},
		{of(-1), of(-1), api.MaxVars, nil, api.ErrRowForm},
		{of(3), of(-1), 3, nil, api.ErrRowForm},
		{of(-1), of(3), 3, nil, api.ErrRowForm},
		{of(3, 1), of(-1), 2, nil, api.ErrRowForm},
	} {
		if got, e := Unify(c.a, c.b, c.fresh); !reflect.DeepEqual(got, c.want) || e != c.e {
			t.Errorf("Unify(%v, %v, %d) = %v, %d, want %v, %d", c.a, c.b, c.fresh, got, e, c.want, c.e)
		}
	}
	for _, r := range bad() {
		if got, e := Unify(r, of(-1), 9); got != nil || e != api.ErrRowForm {
			t.Errorf("Unify(%v, ..) = %v, %d", r, got, e)
		}
		if got, e := Unify(of(-1), r, 9); got != nil || e != api.ErrRowForm {
			t.Errorf("Unify(.., %v) = %v, %d", r, got, e)
		}
	}
}

// put puts binds into a row, one behind the other.
func put(binds []api.Bind, r api.Row) api.Row {
	for _, b := range binds {
		if r.Tail >= 0 && b.Var == r.Tail {
			for op, count := range b.Row.Counts {
				r.Counts[op] += count
			}
			r.Tail = b.Row.Tail
		}
	}
	return r
}

// least tells whether some rows for the tails, of small counts and no tails, make a and b one.
func least(a, b api.Row) bool {
	for i := range 81 {
		for j := range 81 {
			first, second := of(-1, i%3, i/3%3, i/9%3, i/27), of(-1, j%3, j/3%3, j/9%3, j/27)
			if a.Tail == b.Tail {
				second = first
			}
			if put([]api.Bind{tail(a.Tail, first)}, a) == put([]api.Bind{tail(b.Tail, second)}, b) {
				return true
			}
		}
	}
	return false
}

// P8.3: under the binds both are one, and what can be made one is.
func TestUnifyMakesOne(t *testing.T) {
	random := samples.Random(8)
	shape := samples.Shape{Tails: 3, Counts: 3}
	for range 600 {
		a, b := samples.Row(&random, shape), samples.Row(&random, shape)
		binds, e := Unify(a, b, 3)
		if (e == api.OK) != least(a, b) || e != api.OK && e != api.ErrRowUnlike {
			t.Fatalf("Unify(%v, %v) = %v, %d", a, b, binds, e)
		}
		if e == api.OK && put(binds, a) != put(binds, b) {
			t.Fatalf("Unify(%v, %v) = %v", a, b, binds)
		}
	}
}
