package order

import "testing"

func TestByFirst(t *testing.T) {
	number, other := ByFirst(), ByFirst()
	for i, c := range []struct{ thing, want int }{{7, 0}, {3, 1}, {7, 0}, {-1, 2}, {3, 1}, {0, 3}, {-1, 2}} {
		if got := number(c.thing); got != c.want {
			t.Errorf("%d: %d is %d, want %d", i, c.thing, got, c.want)
		}
	}
	if other(3) != 0 {
		t.Error("two functions share what they know")
	}
}

func TestAreDistinct(t *testing.T) {
	for _, c := range []struct {
		numbers []int
		limit   int
		want    bool
	}{
		{nil, 0, true},
		{[]int{0}, 1, true},
		{[]int{2, 0, 1}, 3, true},
		{[]int{1}, 1, false},
		{[]int{-1}, 1, false},
		{[]int{2, 1, 2}, 5, false},
		{[]int{0, 0}, 1, false},
	} {
		if got := AreDistinct(c.numbers, c.limit); got != c.want {
			t.Errorf("%v below %d: %v", c.numbers, c.limit, got)
		}
	}
}
