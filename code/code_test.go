package code

import (
	"slices"
	"strings"
	"testing"

	"threadbare/api"
	"threadbare/expr"
	"threadbare/parse"
)

// short writes a list by letters.
func short(c []api.Instr) string {
	names := strings.Fields("? push load elem join begin add spread call drop op truth jump false true")
	var out []string
	for _, in := range c {
		s := names[in.Op]
		if needsOf(in.Op).usesS {
			s += ":" + in.S
		}
		if needsOf(in.Op).usesA {
			s += "/" + string(rune('0'+in.A))
		}
		out = append(out, s)
	}
	return strings.Join(out, " ")
}

func TestTurned(t *testing.T) {
	for s, want := range map[string]string{
		"set x $y": "begin push:set add push:x add load:y add call", "": "push:", "a;b": "begin push:a add call drop begin push:b add call", "{*}$l a$b": "begin load:l spread push:a load:b join/2 add call", "f [] [g $a(x$i)]": "begin push:f add push: add begin push:g add push:x load:i join/2 elem:a add call add call", "[f;g]": "begin begin push:f add call drop begin push:g add call add call", "# no": "push:",
	} {
		c, at, e := Script(s)
		if short(c) != want || at != 0 || e != 0 || !Sound(c) {
			t.Errorf("Script(%q) = %s", s, short(c))
		}
		l, _, _ := parse.Script(s)
		if Calls(c) != parse.Count(l) {
			t.Errorf("Calls(%q) = %d", s, Calls(c))
		}
	}
	for s, want := range map[string]string{
		"1 ? 2 : 3": "push:1 truth false/5 push:2 jump/6 push:3", "1 && $a": "push:1 truth false/6 load:a truth jump/7 push:0", "$a || 0": "load:a truth true/6 push:0 truth jump/7 push:1", "-max(1, 2) + [f]": "push:1 push:2 op:max()/2 op:-/1 begin push:f add call op:+/2", "0x10": "push:0x10", "\"a$b\" eq {c}": "push:a load:b join/2 push:c op:eq/2",
	} {
		c, at, e := Expr(s)
		if short(c) != want || at != 0 || e != 0 || !Sound(c) {
			t.Errorf("Expr(%q) = %s", s, short(c))
		}
	}
	if c, at, e := Script("a {b"); c != nil || at != 2 || e != api.ErrSyntax {
		t.Errorf("a wrong script: %d, %d", at, e)
	}
	if c, at, e := Expr("1 +"); c != nil || at != 3 || e != api.ErrSyntax {
		t.Errorf("a wrong expression: %d, %d", at, e)
	}
	if _, at, e := Expr(strings.Repeat("-", 100) + "1"); at != 0 || e != api.ErrLimit {
		t.Errorf("a deep expression: %d, %d", at, e)
	}
	for _, c := range []struct {
		tokens []api.Token
		want   string
		e      api.Errno
	}{{nil, "join/0", 0}, {[]api.Token{{Kind: 9, Text: "x"}}, "push:x", 0}, {[]api.Token{{Kind: api.TScript, Text: "a {"}}, "", api.ErrSyntax}, {[]api.Token{{Kind: api.TVar, Text: "v", HasIndex: true}}, "join/0 elem:v", 0}, {[]api.Token{{Kind: api.TScript, Text: strings.Repeat("[", 101)}}, "", api.ErrLimit}} {
		got, e := Word(api.Word{Tokens: c.tokens})
		if short(got) != c.want || e != c.e || e == 0 && !Sound(got) {
			t.Errorf("Word(%v) = %s, %d", c.tokens, short(got), e)
		}
	}
	a, _, _ := Script("set x 1")
	b, _, _ := Script("f $x")
	both, _, _ := Script("set x 1\nf $x")
	if !slices.Equal(both, append(append(a, api.Instr{Op: api.IDrop}), b...)) {
		t.Error("two scripts together")
	}
}

func seq(ops ...api.Instr) []api.Instr { return ops }

func TestSound(t *testing.T) {
	push := api.Instr{Op: api.IPush}
	drop := api.Instr{Op: api.IDrop}
	begin := api.Instr{Op: api.IBegin}
	call := api.Instr{Op: api.ICall}
	at := func(op, a int) api.Instr { return api.Instr{Op: op, A: a} }
	for i, c := range []struct {
		c    []api.Instr
		want bool
	}{
		{seq(push), true}, {nil, false}, {seq(push, push), false}, {seq(push, push, drop), true}, {seq(drop), false}, {seq(begin, call), true}, {seq(begin), false}, {seq(call), false}, {seq(push, api.Instr{Op: api.IAdd}), false}, {seq(begin, push, api.Instr{Op: api.IAdd}, call), true}, {seq(begin, push, api.Instr{Op: api.ISpread}), false},
		{seq(at(api.IJoin, 0)), true}, {seq(push, at(api.IJoin, 2)), false}, {seq(at(api.IOp, 0)), false}, {seq(push, at(api.IOp, 1)), true}, {seq(push, at(api.IOp, -1)), false}, {seq(at(api.IPush, 1)), false}, {seq(push, api.Instr{Op: api.IDrop, S: "x"}, push), false}, {seq(api.Instr{Op: 15}), false}, {seq(api.Instr{}), false}, {seq(api.Instr{Op: -1}), false},
		{seq(push, at(api.IJump, 2)), true}, {seq(push, at(api.IJump, 1)), false}, {seq(push, at(api.IJump, 3)), false}, {seq(push, at(api.IJump, 3), push), false}, {seq(push, at(api.IFalse, 4), push, at(api.IJump, 5), push), true}, {seq(push, at(api.IFalse, 3), push), false}, {seq(push, push, at(api.ITrue, 3)), true}, {seq(push, push, at(api.ITrue, 2)), false}, {seq(push, at(api.IJoin, 1<<40)), false},
	} {
		if Sound(c.c) != c.want {
			t.Errorf("case %d: Sound is %t", i, !c.want)
		}
		_, _, e := Heights(c.c)
		_, e2 := Threaded(c.c)
		if (e == 0) != c.want || (e2 == 0) != c.want {
			t.Errorf("case %d: %d, %d", i, e, e2)
		}
	}
	c, _, _ := Script("f [g [h a]] b")
	if n, m, e := Heights(c); n != 1 || m != 3 || e != 0 {
		t.Errorf("Heights = %d, %d", n, m)
	}
	if got := Loads(append(c, api.Instr{Op: api.ILoad, S: "z"}, api.Instr{Op: api.IElem, S: "a"}, api.Instr{Op: api.ILoad, S: "z"})); !slices.Equal(got, []string{"a", "z"}) {
		t.Errorf("Loads = %q", got)
	}
	many := slices.Repeat(seq(push, drop), 50000)
	if Sound(append(many, push)) || Format(append(many, push)) != "" || Plain(append(many, push)) {
		t.Error("too long a list")
	}
	if !Sound(append(many[2:], push)) {
		t.Error("a long list")
	}
	x, _, _ := Expr("1 ? 0 ? 2 : 3 ? 4 : 5 : 6")
	y, _ := Threaded(x)
	for _, in := range y {
		if needsOf(in.Op).jumps && in.A < len(y) && y[in.A].Op == api.IJump {
			t.Errorf("Threaded: %s", short(y))
		}
	}
	if r, p, e := Run(y); len(y) != len(x) || Sound(y) && r+p != "4" || e != 0 && Sound(y) {
		t.Errorf("Run of a threaded list: %q, %q, %d", r, p, e)
	}
}

func TestRun(t *testing.T) {
	for _, s := range []string{"1 + 2 * 3", "1 ? 2 : 3", "0 ? 2 : 3 + 4", "1 && off", "0 && {x}", "{x} && 1", "0 || yes", "1 || {x}", "1 / 0", "x(1)", "max(1, 5, 2)", "{a b}", "- 5", "\"a\" < \"b\"", "{q} ? 1 : 2", "1 in {1 2}", "!0 && !{}"} {
		n, _, _ := expr.Parse(s)
		r, p, _ := expr.Evaluate(n)
		c, _, _ := Expr(s)
		if !Plain(c) {
			t.Errorf("Plain(%q)", s)
		}
		if r2, p2, e := Run(c); r2 != r || p2 != p || e != 0 {
			t.Errorf("Run(%q) = %q, %q, %d", s, r2, p2, e)
		}
	}
	for _, s := range []string{"$a", "[f]", "1 + $a(1)"} {
		c, _, _ := Expr(s)
		if _, _, e := Run(c); e != api.ErrInvalid || Plain(c) {
			t.Errorf("Run(%q): %d", s, e)
		}
	}
	half := api.Instr{Op: api.IPush, S: strings.Repeat("x", 40000)}
	if r, p, e := Run(seq(half, half, api.Instr{Op: api.IJoin, A: 2})); r != "" || p != "long" || e != 0 {
		t.Errorf("a long text: %q", p)
	}
	if r, _, _ := Run(seq(api.Instr{Op: api.IPush, S: "x"}, api.Instr{Op: api.IFalse, A: 4}, api.Instr{Op: api.IPush, S: "no"}, api.Instr{Op: api.IJump, A: 5}, api.Instr{Op: api.IPush, S: "yes"})); r != "no" {
		t.Errorf("IFalse of a text that is not 0: %q", r)
	}
}

func TestFormat(t *testing.T) {
	c := seq(api.Instr{Op: 1, S: "a b"}, api.Instr{Op: 4, A: 1000000000}, api.Instr{Op: 14, A: 3, S: "#x\n{ \\"}, api.Instr{Op: 2, S: "\t{"})
	s := Format(c)
	if s != "1 0 {a b}\n4 1000000000 {}\n14 3 \\#x\\n\\{\\ \\\\\n2 0 \\t\\{\n" {
		t.Errorf("Format = %q", s)
	}
	back, n, e := Parse(s)
	if !slices.Equal(back, c) || n != 0 || e != 0 {
		t.Errorf("Parse = %v, %d, %d", back, n, e)
	}
	for text, line := range map[string]int{"1 0 {a b}": 0, "1 0 {}\n\n": 1, "1 0 a b\n": 0, "0 0 {}\n": 0, "15 0 {}\n": 0, "1 -1 {}\n": 0, "1 1000000001 {}\n": 0, "1 0 {}\n01 0 {}\n": 1, "1 0  a\n": 0, "1 0 \"a\"\n": 0, "1 0 \n": 0, "1 +0 a\n": 0, "1 0 {}\n1 0 a\\\n": 1} {
		if c, n, e := Parse(text); c != nil || n != line || e != api.ErrSyntax {
			t.Errorf("Parse(%q): %d, %d", text, n, e)
		}
	}
	if c, n, e := Parse(""); len(c) != 0 || n != 0 || e != 0 {
		t.Error("Parse of nothing")
	}
	if _, _, e := Parse(strings.Repeat("1 0 a\n", 11000)); e != api.ErrLong {
		t.Error("Parse of too long a text")
	}
}
