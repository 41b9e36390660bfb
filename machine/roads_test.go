package machine

import (
	"math/rand"
	"strings"
	"testing"

	"threadbare/api"
	"threadbare/list"
	"threadbare/parse"
	"threadbare/text"
	"threadbare/vars"
)

// The second road reads a script as a text, command by command: each is evaluated by itself, as the list of its words.
type road struct {
	x    *Machine
	left int
}

func failed(what, about string) api.Outcome {
	return api.Outcome{Code: api.CError, Text: what + ": " + text.Detail(about)}
}

func (r *road) script(s string) (o api.Outcome) {
	l, _, e := parse.Script(s)
	if e != api.OK {
		return failed("script", s)
	}
	for _, c := range l {
		if o = r.command(c); o.Code != api.COk {
			return o
		}
	}
	return o
}

func (r *road) command(c api.Command) api.Outcome {
	var words []string
	for _, w := range c.Words {
		o := r.tokens(w.Tokens)
		if o.Code != api.COk {
			return o
		}
		if !w.Spread {
			words = append(words, o.Text)
			continue
		}
		l, _, e := list.Split(o.Text)
		if e != api.OK {
			return failed("list", o.Text)
		}
		words = append(words, l...)
	}
	one, _ := list.Join(words)
	o := r.x.Eval(one, r.left)
	r.left = r.x.Left()
	return o
}

func (r *road) tokens(l []api.Token) api.Outcome {
	out := ""
	for _, t := range l {
		o := api.Outcome{Text: t.Text}
		switch {
		case t.Kind == api.TScript:
			o = r.script(t.Text)
		case t.Kind == api.TVar && t.HasIndex:
			if o = r.tokens(t.Index); o.Code == api.COk {
				o = r.variable(t.Text + "(" + o.Text + ")")
			}
		case t.Kind == api.TVar:
			o = r.variable(t.Text)
		}
		if o.Code != api.COk {
			return o
		}
		out += o.Text
	}
	return api.Outcome{Text: out}
}

func (r *road) variable(word string) api.Outcome {
	name, _, _ := vars.Split(word)
	if strings.HasPrefix(name, "::") {
		word = word[2:]
	}
	s, e := r.x.Get(word)
	switch e {
	case api.OK:
		return api.Outcome{Text: s}
	case api.ErrKind:
		return failed("array", word)
	}
	return failed("variable", word)
}

func someScript(r *rand.Rand, deep int) string {
	word := func() string {
		if deep > 0 && r.Intn(4) == 0 {
			inner := someScript(r, deep-1)
			return []string{"[" + inner + "]", "{" + inner + "}", "\"x[" + inner + "]$a\"", "{*}[" + inner + "]", "$c([" + inner + "])"}[r.Intn(5)]
		}
		return []string{"a", "b", "c(x)", "$a", "$b", "${a}", "$c(x)", "$c(y)", "$c", "{1 2}", "\"p q\"", "{*}$b", "{*}{a 5}", "x$a$b", "\\t", "{}", "set", "s", "-code", "1", "{$a + 1}", "{$c(x) eq {1}}", "{0 && [set b]}", "{[list 1] ? $a : [error z]}"}[r.Intn(24)]
	}
	var out []string
	for range 1 + r.Intn(3) {
		c := []string{"set", "set", "set", "unset", "list", "list", "eval", "expr", "catch", "catch", "error", "return", "rename", "nope", "$a", "s"}[r.Intn(16)]
		for range r.Intn(4) {
			c += " " + word()
		}
		out = append(out, c)
	}
	return strings.Join(out, []string{"; ", "\n"}[r.Intn(2)])
}

func TestTwoRoads(t *testing.T) {
	r := rand.New(rand.NewSource(5))
	codes := map[int]int{}
	for range 2000 {
		before, s := "set a 5; set b {1 2}; set c(x) 1; set c(y) {a b}", someScript(r, 3)
		whole := New()
		whole.Eval(before, 100)
		all := whole.Eval(s, 200)
		used := 200 - whole.Left()
		codes[all.Code]++
		for steps := range min(used, 12) + 2 {
			if steps > 12 {
				steps = used
			}
			x, y := New(), New()
			x.Eval(before, 100)
			y.Eval(before, 100)
			y.Faces(steps%2 == 0)
			o := x.Eval(s, steps)
			other := road{y, steps}
			o2 := other.script(s)
			if o != o2 || x.Left() != other.left || x.Dump() != y.Dump() || strings.Join(x.Commands("*"), " ") != strings.Join(y.Commands("*"), " ") {
				t.Fatalf("%q with %d steps: %v, %d left, %s; by the second road %v, %d left, %s", s, steps, o, x.Left(), x.Dump(), o2, other.left, y.Dump())
			}
			if steps >= used && o != all {
				t.Fatalf("%q with %d steps: %v, not %v", s, steps, o, all)
			}
			if steps < used && o.Code != api.CStop {
				t.Fatalf("%q with %d steps of %d: %v", s, steps, used, o)
			}
		}
	}
	if codes[api.COk] < 100 || codes[api.CError] < 300 || codes[api.CReturn] < 30 {
		t.Errorf("codes %v", codes)
	}
}
