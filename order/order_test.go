package order

import "testing"

func TestByFirst(t *testing.T) {
	number, other := ByFirst(), ByFirst()
	for i, c := range []struct{ thing, want int }{{7, 0}, {3, 1}, {7, 0}, {-1, 2}, {3, 1}, {0, 3}, {-1, 2}} {
		if got := number(c.thing); got != c.want {
			t.Errorf("%d: %d is %d, want %d", i, c.thing, got, c.want)
		}
	}
	if other(3) != 0 {
		t.Error("two functions share what they know")
	}
}
