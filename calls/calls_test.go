// Package calls holds all calls of the document against the rules that hold for every one of them.
package calls

import (
	"reflect"
	"strings"
	"sync"
	"testing"

	"trammel/agree"
	"trammel/api"
	"trammel/check"
	"trammel/cps"
	"trammel/direct"
	"trammel/driver"
	"trammel/elab"
	"trammel/erase"
	"trammel/hsem"
	"trammel/infer"
	"trammel/lex"
	"trammel/match"
	"trammel/parse"
	"trammel/place"
	"trammel/row"
	"trammel/run"
	"trammel/samples"
	"trammel/scheme"
	"trammel/scope"
	"trammel/show"
	"trammel/source"
	"trammel/subst"
	"trammel/target"
	"trammel/tidy"
	"trammel/tree"
	"trammel/typ"
	"trammel/unify"
)

// all are the calls that the document lists.
var all = map[string]any{
	"source.Valid": source.Valid, "source.Width": source.Width,
	"lex.Tokens": lex.Tokens, "lex.Keyword": lex.Keyword,
	"tree.May": tree.May, "tree.Depth": tree.Depth, "tree.Part": tree.Part, "tree.Same": tree.Same,
	"parse.Parse": parse.Parse, "show.Print": show.Print,
	"scope.Resolve": scope.Resolve, "scope.May": scope.May,
	"typ.May": typ.May, "typ.Text": typ.Text, "typ.Vars": typ.Vars, "typ.Fun": typ.Fun,
	"row.May": row.May, "row.Text": row.Text, "row.With": row.With, "row.Unify": row.Unify,
	"subst.Type": subst.Type, "subst.Row": subst.Row, "unify.Unify": unify.Unify,
	"match.Instance": match.Instance, "match.Equal": match.Equal,
	"scheme.Close": scheme.Close, "scheme.Take": scheme.Take,
	"infer.Infer": infer.Infer, "infer.Marks": infer.Marks, "elab.Core": elab.Core,
	"check.Check": check.Check, "erase.Erase": erase.Erase, "hsem.Run": hsem.Run,
	"direct.Direct": direct.Direct, "target.May": target.May, "target.Names": target.Names,
	"cps.Translate": cps.Translate, "run.Run": run.Run,
	"agree.Fuel": agree.Fuel, "agree.Same": agree.Same, "driver.Do": driver.Do,
	"place.Line": place.Line, "place.Tell": place.Tell, "tidy.Tidy": tidy.Tidy,
}

// numbers are at the edges of what may be.
var numbers = []int{0, 1, 2, 3, -1, -2, 4, 5, 31, 32, 33, 127, 255, 256, 511, 512, 4095, 4096, 8191, 8192, 1048576, 1048577,
	1073741823, 1073741824, -1073741824, 1<<63 - 1, -1 << 63}

// maker makes arguments: ordinary ones, of which some are spoilt.
type maker struct{ samples.Random }

func (m *maker) program() api.Program {
	var p api.Program
	if m.Below(2) == 0 {
		p, _ = samples.Typed(&m.Random, 1+m.Below(25))
	} else {
		p = samples.Scoped(&m.Random, 1+m.Below(25))
	}
	if m.Below(4) > 0 {
		p, _, _ = scope.Resolve(p)
	}
	return p
}

func (m *maker) text() string {
	s, _ := show.Print(m.program())
	if m.Below(3) == 0 && s != "" {
		at := m.Below(len(s))
		s = s[:at] + string([]byte{byte(m.Below(256))}) + s[at+m.Below(2):]
	}
	return s
}

func (m *maker) types() api.Type {
	return samples.Type(&m.Random, samples.Shape{Size: 1 + m.Below(12), Vars: 4, Tails: 4, Counts: 3})
}

func (m *maker) row() api.Row { return samples.Row(&m.Random, samples.Shape{Tails: 4, Counts: 3}) }

func many[T any](m *maker, most int, one func() T) []T {
	var list []T
	for range m.Below(most + 1) {
		list = append(list, one())
	}
	return list
}

func (m *maker) bind() api.Bind {
	if m.Below(2) == 0 {
		return api.Bind{Var: m.Below(4), IsRow: true, Row: m.row()}
	}
	return api.Bind{Var: m.Below(4), Type: m.types()}
}

func (m *maker) scheme() api.Scheme {
	s, _ := scheme.Close(m.types(), nil, nil)
	return s
}

func (m *maker) outcome() api.Outcome { return api.Outcome{Kind: m.Below(6), Num: m.Below(2)} }

func (m *maker) small() int {
	if m.Below(3) == 0 {
		return numbers[m.Below(len(numbers))]
	}
	return m.Below(40)
}

// argument makes one of a type.
func (m *maker) argument(t reflect.Type) reflect.Value {
	switch reflect.New(t).Interface().(type) {
	case *string:
		return reflect.ValueOf(m.text())
	case *int:
		return reflect.ValueOf(m.small())
	case *api.Program:
		return reflect.ValueOf(m.program())
	case *[]api.Node:
		return reflect.ValueOf(m.program().Nodes)
	case *api.Type:
		return reflect.ValueOf(m.types())
	case *api.Row:
		return reflect.ValueOf(m.row())
	case *[]api.Bind:
		return reflect.ValueOf(many(m, 6, m.bind))
	case *[]int:
		return reflect.ValueOf(many(m, 4, m.small))
	case *[]api.Type:
		return reflect.ValueOf(many(m, 4, m.types))
	case *[]api.Row:
		return reflect.ValueOf(many(m, 4, m.row))
	case *api.Scheme:
		return reflect.ValueOf(m.scheme())
	case *api.Core:
		c, _, _ := elab.Core(m.program())
		return reflect.ValueOf(c)
	case *[]api.Target:
		if m.Below(2) == 0 {
			return reflect.ValueOf(samples.Term(&m.Random, 1+m.Below(30)))
		}
		ts, _ := cps.Translate(m.program())
		return reflect.ValueOf(ts)
	case *api.Outcome:
		return reflect.ValueOf(m.outcome())
	case *api.Result:
		return reflect.ValueOf(api.Result{Code: m.Below(3), At: m.Below(9), Type: "int", First: m.outcome(), Second: m.outcome()})
	}
	panic(t.String())
}

// spoil changes something in a value, which can be set.
func (m *maker) spoil(v reflect.Value) {
	switch v.Kind() {
	case reflect.Int:
		v.SetInt(int64(numbers[m.Below(len(numbers))]))
	case reflect.Bool:
		v.SetBool(!v.Bool())
	case reflect.String:
		v.SetString([]string{"", "x", "let", "X", "a b", "\xff", strings.Repeat("a", 17)}[m.Below(7)])
	case reflect.Struct:
		m.spoil(v.Field(m.Below(v.NumField())))
	case reflect.Array:
		m.spoil(v.Index(m.Below(v.Len())))
	case reflect.Slice:
		m.spoilList(v)
	}
}

func (m *maker) spoilList(v reflect.Value) {
	switch many := v.Len(); {
	case many == 0 || m.Below(12) == 0:
		v.Set(reflect.Append(v, reflect.New(v.Type().Elem()).Elem()))
	case m.Below(12) == 0:
		v.Set(v.Slice(0, m.Below(many)))
	case m.Below(12) == 0:
		v.Set(reflect.AppendSlice(v, v.Slice(0, many)))
	default:
		m.spoil(v.Index(m.Below(many)))
	}
}

// copied is a value that shares no memory with v; each list has some spare room, which is filled.
func copied(v reflect.Value) reflect.Value {
	made := reflect.New(v.Type()).Elem()
	switch v.Kind() {
	case reflect.Struct:
		for i := range v.NumField() {
			made.Field(i).Set(copied(v.Field(i)))
		}
	case reflect.Slice:
		if v.IsNil() {
			return made
		}
		list := reflect.MakeSlice(v.Type(), v.Len()+2, v.Len()+2)
		for i := range v.Len() {
			list.Index(i).Set(copied(v.Index(i)))
		}
		made.Set(list.Slice(0, v.Len()))
	default:
		made.Set(v)
	}
	return made
}

// sameRoom tells whether two values are the same, and the spare room of their lists is.
func sameRoom(a, b reflect.Value) bool {
	switch a.Kind() {
	case reflect.Struct:
		for i := range a.NumField() {
			if !sameRoom(a.Field(i), b.Field(i)) {
				return false
			}
		}
		return true
	case reflect.Slice:
		if a.Len() != b.Len() || a.Cap() != b.Cap() {
			return false
		}
		a, b = a.Slice(0, a.Cap()), b.Slice(0, b.Cap())
		for i := range a.Len() {
			if !sameRoom(a.Index(i), b.Index(i)) {
				return false
			}
		}
		return true
	}
	return reflect.DeepEqual(a.Interface(), b.Interface())
}

// lists adds where each list's memory begins and ends.
func lists(v reflect.Value, spans [][2]uintptr) [][2]uintptr {
	switch v.Kind() {
	case reflect.Struct:
		for i := range v.NumField() {
			spans = lists(v.Field(i), spans)
		}
	case reflect.Slice:
		if v.Cap() > 0 {
			spans = append(spans, [2]uintptr{v.Pointer(), v.Pointer() + uintptr(v.Cap())*v.Type().Elem().Size()})
		}
		for i := range v.Len() {
			spans = lists(v.Index(i), spans)
		}
	}
	return spans
}

func share(spans [][2]uintptr) bool {
	for i, a := range spans {
		for _, b := range spans[:i] {
			if a[0] < b[1] && b[0] < a[1] {
				return true
			}
		}
	}
	return false
}

// isRefusal tells whether some results have an error, or a false in its stead.
func isRefusal(results []reflect.Value) bool {
	last := results[len(results)-1]
	if e, ok := last.Interface().(api.Errno); ok {
		return e != api.OK
	}
	return false
}

// placed are the calls that tell a place, or a node, beside an error.
var placed = map[string]bool{"lex.Tokens": true, "parse.Parse": true, "scope.Resolve": true, "infer.Infer": true,
	"infer.Marks": true, "elab.Core": true, "check.Check": true}

func TestRules(t *testing.T) {
	refusals, answers := make(map[string]int), make(map[string]int)
	for name, call := range all {
		m := maker{samples.Random(len(name) * 7919)}
		f := reflect.ValueOf(call)
		for i := range 600 {
			var args []reflect.Value
			for at := range f.Type().NumIn() {
				arg := copied(m.argument(f.Type().In(at)))
				for i%2 == 1 && m.Below(3) > 0 {
					m.spoil(arg)
				}
				args = append(args, copied(arg))
			}
			was := make([]reflect.Value, len(args))
			for at, arg := range args {
				was[at] = copied(arg)
			}
			results := f.Call(args)
			again := f.Call(args)
			var spans [][2]uintptr
			for at, arg := range args {
				if !sameRoom(arg, was[at]) {
					t.Fatalf("%s changes %v to %v", name, was[at], arg)
				}
				spans = lists(arg, spans)
			}
			for at, result := range results {
				if !reflect.DeepEqual(result.Interface(), again[at].Interface()) {
					t.Fatalf("%s of %v: %v, then %v", name, args, result, again[at])
				}
				spans = lists(again[at], lists(result, spans))
			}
			if share(spans) {
				t.Fatalf("%s of %v shares memory", name, args)
			}
			if !isRefusal(results) {
				answers[name]++
				continue
			}
			refusals[name]++
			for at, result := range results[:len(results)-1] {
				if !result.IsZero() && !(placed[name] && result.Kind() == reflect.Int) {
					t.Fatalf("%s of %v: result %d is %v beside an error", name, args, at, result)
				}
			}
		}
	}
	for name := range all {
		if answers[name] < 5 || refusals[name] == 0 && reflect.TypeOf(all[name]).NumOut() > 1 && name != "source.Valid" {
			t.Errorf("%s: %d answers, %d refusals", name, answers[name], refusals[name])
		}
	}
}

// R5: calls from several goroutines tell what they tell one by one.
func TestAtOneTime(t *testing.T) {
	m := maker{samples.Random(5)}
	var texts []string
	var want []api.Result
	for range 60 {
		s := m.text()
		r, _ := driver.Do(s, 3000)
		texts, want = append(texts, s), append(want, r)
	}
	var group sync.WaitGroup
	for range 8 {
		group.Add(1)
		go func() {
			defer group.Done()
			for i, s := range texts {
				if got, e := driver.Do(s, 3000); got != want[i] || e != api.OK {
					t.Errorf("%q: %v, want %v", s, got, want[i])
				}
			}
		}()
	}
	group.Wait()
}
