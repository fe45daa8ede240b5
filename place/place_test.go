package place

import (
	"testing"

	"trammel/api"
	"trammel/driver"
)

// P24.1.
func TestLine(t *testing.T) {
	for _, c := range []struct {
		s            string
		at           int
		line, column int
	}{
		{"", 0, 1, 1},
		{"abc", 0, 1, 1},
		{"abc", 2, 1, 3},
		{"abc", 3, 1, 4},
		{"a\nbc", 1, 1, 2},
		{"a\nbc", 2, 2, 1},
		{"a\nbc", 4, 2, 3},
		{"\n\n", 0, 1, 1},
		{"\n\n", 1, 2, 1},
		{"\n\n", 2, 3, 1},
		{"a\r\nb", 2, 1, 3},
		{"a\r\nb", 3, 2, 1},
		{"\ta", 1, 1, 2},
		// Bytes are counted, not signs.
		{"é€x", 5, 1, 6},
		{"\xff\xff", 1, 1, 2},
	} {
		if line, column, e := Line(c.s, c.at); line != c.line || column != c.column || e != api.OK {
			t.Errorf("Line(%q, %d) = %d, %d, %d, want %d, %d", c.s, c.at, line, column, e, c.line, c.column)
		}
	}
	for _, at := range []int{-1, 4, 1 << 62, -1 << 63} {
		if line, column, e := Line("a\nb", at); line != 0 || column != 0 || e != api.ErrPlaceForm {
			t.Errorf("Line at %d = %d, %d, %d", at, line, column, e)
		}
	}
}

func out(kind, num int) api.Outcome { return api.Outcome{Kind: kind, Num: num} }

// P24.2.
func TestTell(t *testing.T) {
	for _, c := range []struct {
		s    string
		r    api.Result
		want string
	}{
		{"", api.Result{}, " = 0 | 0"},
		{"", api.Result{Type: "int", First: out(api.OutInt, -7), Second: out(api.OutInt, 1073741823)}, "int = -7 | 1073741823"},
		{"", api.Result{Type: "bool", First: out(api.OutBool, 0), Second: out(api.OutBool, 1)}, "bool = false | true"},
		{"", api.Result{Type: "t", First: out(api.OutFun, 0), Second: out(api.OutStuck, 0)}, "t = function | stuck"},
		{"", api.Result{Type: "t", First: out(api.OutFault, 0), Second: out(api.OutFault, 1)}, "t = fault 0 | fault 1"},
		{"", api.Result{Type: "t", First: out(api.OutFuel, 0), Second: out(api.OutInt, -1073741824)}, "t = fuel | -1073741824"},
		{"", api.Result{Type: "t", At: 99}, "t = 0 | 0"},
		{"ab\ncd", api.Result{Code: 403, At: 4}, "2:2: error 403"},
		{"ab\ncd", api.Result{Code: 1, At: 5, Type: "int"}, "2:3: error 1"},
		{"", api.Result{Code: 123456, At: 0}, "1:1: error 123456"},
	} {
		if got, e := Tell(c.s, c.r); got != c.want || e != api.OK {
			t.Errorf("Tell(%q, %v) = %q, %d, want %q", c.s, c.r, got, e, c.want)
		}
	}
	for _, r := range []api.Result{
		{Code: -1},
		{Code: 5, At: 3},
		{Code: 5, At: -1},
		{First: out(api.OutBool, 2)},
		{Second: out(6, 0)},
		{Second: out(api.OutFun, 1)},
		{Code: 5, First: out(api.OutFault, 2)},
		{Code: 5, Second: out(api.OutInt, 1<<40)},
	} {
		if got, e := Tell("ab", r); got != "" || e != api.ErrPlaceForm {
			t.Errorf("Tell(%v) = %q, %d", r, got, e)
		}
	}
}

// What the driver tells can be read.
func TestTellOfDriver(t *testing.T) {
	for _, c := range []struct{ s, want string }{
		{"let x = 6 in\nx * 7", "int = 42 | 42"},
		{"fun x -> x == 1", "(int -<|e0> bool) = function | function"},
		{"let x = 6 in\nx * y", "2:5: error 601"},
		{"let x = 6 in\n  x x", "2:3: error 1301"},
		{"let x = 6 in\n", "2:1: error 403"},
		{"1 / (2 - 2)", "int = fault 1 | fault 1"},
		{"let rec f x = f x in f true", "t0 = fuel | fuel"},
	} {
		r, e := driver.Do(c.s, 5000)
		if e != api.OK {
			t.Fatal(e)
		}
		if got, e := Tell(c.s, r); got != c.want || e != api.OK {
			t.Errorf("%q: %q, %d, want %q", c.s, got, e, c.want)
		}
	}
}
