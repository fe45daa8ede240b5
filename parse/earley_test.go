package parse

import (
	"strings"
	"testing"

	"trammel/api"
	"trammel/samples"
)

// rules are the grammar's, each a name and what it may be; small letters and signs are tokens, where
// n is a name and 0 a number.
var rules = [][]string{
	{"PROGRAM", "EXPR"}, {"PROGRAM", "op", "n", ":", "BASE", "->", "BASE", ";", "PROGRAM"},
	{"BASE", "int"}, {"BASE", "bool"},
	{"EXPR", "fun", "n", "->", "EXPR"},
	{"EXPR", "let", "n", "=", "EXPR", "in", "EXPR"},
	{"EXPR", "let", "rec", "n", "n", "=", "EXPR", "in", "EXPR"},
	{"EXPR", "if", "EXPR", "then", "EXPR", "else", "EXPR"},
	{"EXPR", "SUM"}, {"EXPR", "SUM", "==", "SUM"}, {"EXPR", "SUM", "<", "SUM"},
	{"SUM", "PRODUCT"}, {"SUM", "SUM", "+", "PRODUCT"}, {"SUM", "SUM", "-", "PRODUCT"},
	{"PRODUCT", "APPLY"}, {"PRODUCT", "PRODUCT", "*", "APPLY"}, {"PRODUCT", "PRODUCT", "/", "APPLY"},
	{"APPLY", "ATOM"}, {"APPLY", "do", "n", "ATOM"}, {"APPLY", "APPLY", "ATOM"},
	{"ATOM", "n"}, {"ATOM", "0"}, {"ATOM", "true"}, {"ATOM", "false"}, {"ATOM", "(", "EXPR", ")"},
	{"ATOM", "handle", "EXPR", "with", "n", "n", "n", "->", "EXPR", "return", "n", "->", "EXPR", "end"},
}

// item is a rule, how much of it is read, and where it began.
type item struct{ rule, dot, from int }

func (i item) next() string {
	if i.dot == len(rules[i.rule])-1 {
		return ""
	}
	return rules[i.rule][i.dot+1]
}

// wrong is the first token that may not stand where it does, by the grammar alone: as many as there
// are, if it is the end; -1, if there is none.
func wrong(tokens []string) int {
	sets := [][]item{nil}
	for r := range rules {
		if rules[r][0] == "PROGRAM" {
			sets[0] = append(sets[0], item{r, 0, 0})
		}
	}
	for at := 0; ; at++ {
		has := make(map[item]bool)
		for _, i := range sets[at] {
			has[i] = true
		}
		add := func(i item) {
			if !has[i] {
				has[i] = true
				sets[at] = append(sets[at], i)
			}
		}
		done := false
		for k := 0; k < len(sets[at]); k++ {
			i := sets[at][k]
			if i.next() == "" {
				done = done || rules[i.rule][0] == "PROGRAM" && i.from == 0
				for _, over := range sets[i.from] {
					if over.next() == rules[i.rule][0] {
						add(item{over.rule, over.dot + 1, over.from})
					}
				}
			}
			for r := range rules {
				if rules[r][0] == i.next() {
					add(item{r, 0, at})
				}
			}
		}
		if at == len(tokens) {
			if done {
				return -1
			}
			return at
		}
		var scanned []item
		for _, i := range sets[at] {
			if i.next() == tokens[at] {
				scanned = append(scanned, item{i.rule, i.dot + 1, i.from})
			}
		}
		if scanned == nil {
			return at
		}
		sets = append(sets, scanned)
	}
}

// expand makes tokens that a rule of the grammar tells, and sometimes others in their stead.
func expand(random *samples.Random, name string, depth int, tokens []string) []string {
	if name != strings.ToUpper(name) || name == strings.ToLower(name) {
		return append(tokens, name)
	}
	var fit []int
	for r := range rules {
		if rules[r][0] == name {
			fit = append(fit, r)
		}
	}
	pick := fit[random.Below(len(fit))]
	if depth <= 0 {
		pick = fit[0]
		if name == "EXPR" {
			pick = 8
		}
	}
	for _, part := range rules[pick][1:] {
		tokens = expand(random, part, depth-1, tokens)
	}
	return tokens
}

// P4.1: the first token that none may follow, and nothing ahead of it, is what is told.
func TestGrammarByItself(t *testing.T) {
	words := strings.Fields("fun let rec in if then else handle with return end do op true false int bool n 0 " +
		"-> == ( ) = + - * / < ; : n n 0 ( )")
	random := samples.Random(3)
	good, bad := 0, 0
	for range 6000 {
		tokens := expand(&random, "PROGRAM", random.Below(9), nil)
		if len(tokens) > 90 {
			continue
		}
		for random.Below(2) == 0 {
			at := random.Below(len(tokens))
			tokens[at] = words[random.Below(len(words))]
		}
		if random.Below(4) == 0 {
			tokens = tokens[:random.Below(len(tokens)+1)]
		}
		s := strings.Join(tokens, " ")
		p, at, e := Parse(s)
		if e == api.ErrParseDepth || e == api.ErrParseMany {
			continue
		}
		want := wrong(tokens)
		if want < 0 {
			good++
			if e != api.OK {
				t.Fatalf("Parse(%q) = %v, %d, %d", s, p, at, e)
			}
			continue
		}
		bad++
		place := len(s)
		if want < len(tokens) {
			place = len(strings.Join(tokens[:want], " ")) + min(want, 1)
		}
		if at != place || e != api.ErrParseWant {
			t.Fatalf("Parse(%q) = %d, %d, want %d", s, at, e, place)
		}
	}
	if good < 500 || bad < 500 {
		t.Errorf("%d good, %d bad", good, bad)
	}
}
