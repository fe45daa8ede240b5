package env

import "testing"

func TestAt(t *testing.T) {
	var l List[int]
	lists := []List[int]{l}
	for i := range 600 {
		l = l.With(i)
		lists = append(lists, l)
	}
	// A list that another one is made of stays as it is.
	for size, l := range lists {
		for further := range size {
			if got, ok := l.At(further); !ok || got != size-1-further {
				t.Fatalf("At(%d) of %d is %d, %v", further, size, got, ok)
			}
		}
		for _, none := range []int{-1, size, size + 1, 1 << 40, -1 << 63} {
			if got, ok := l.At(none); ok || got != 0 {
				t.Fatalf("At(%d) of %d is %d, %v", none, size, got, ok)
			}
		}
	}
	a, b := lists[5].With(77), lists[5].With(88)
	first, _ := a.At(0)
	second, _ := b.At(0)
	if first != 77 || second != 88 {
		t.Errorf("%d, %d", first, second)
	}
}

// There are few parts, so that what is bound far out is found soon.
func TestFewParts(t *testing.T) {
	var l List[int]
	for i := range 10000 {
		l = l.With(i)
		parts := 0
		for p := l.first; p != nil; p = p.out {
			parts++
		}
		if parts > 14 {
			t.Fatalf("%d parts of %d things", parts, i+1)
		}
	}
}
