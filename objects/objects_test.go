package objects

import (
	"fmt"
	"slices"
	"strings"
	"testing"

	"threadbare/api"
)

func TestScripts(t *testing.T) {
	const base = "set log {}; proc log s {global log; lappend log $s; list}; "
	for i, c := range []struct{ script, want string }{
		{"class create a {{method f {} {return 1}}}; class create b {{superclass a} {method f {} {expr {[next] + 1}}}}; [b new] f", "0 2"}, {"class create a {{field x} {constructor v {set x $v}} {method get {} {set x}}}; a create o 5; list [o get] [object vars o] [set ::oo::1::x]", "0 5 x 5"}, {"class create a {}; a new", "0 ::oo::1"}, {"class create a {}; a create o", "0 ::o"}, {"class create a {}; a new 1", "1 words: a"}, {"class create a {}; a", "1 words: a"}, {"class create a {}; a create", "1 words: a"}, {"class create a {}; a q", "1 method: q"}, {"class create a {}; a create q::o", "1 namespace: ::q"}, {"class create a {{constructor {} {error no}}}; list [catch {a create o} m] $m [info commands o] [class instances a] [namespace exists ::oo::1]", "0 1 no {} {} 0"}, {"class create a {{constructor x {}}}; a new", "1 words: a"},
		{"class create a \\{", "1 list: {"}, {"class create q::a {}", "1 namespace: ::q"}, {"class create a {{q}}", "1 option: q"}, {"class create a {{}}", "1 words: "}, {"class create a {{method f}}", "1 words: method"}, {"class create a {{method f \\{ {}}}", "1 list: {"}, {"class create a {{method f {x x} {}}}", "1 param: x"}, {"class create a {{method f {} {}} {q}}; list", "1 option: q"}, {"catch {class create a {{method f {} {}} {q}}}; class methods a", "0 f"}, {"class create a {{superclass q}}", "1 class: q"}, {"class create a {{superclass a}}", "1 circle: ::a"}, {"class create a {}; class create b {{superclass a}}; class define a mixin b", "1 circle: ::a"}, {"class create a {{field x(1)}}", "1 name: x(1)"}, {"class create a {{class a}}", "1 option: class"}, {"class create a {{deletemethod f}}", "1 method: f"}, {"class create a {{method f {} {}} {deletemethod f}}; class methods a", "0 "}, {"class define q method", "1 class: q"}, {"class", "1 words: class"}, {"class q", "1 option: q"}, {"object", "1 words: object"}, {"object q x", "1 option: q"}, {"object class q", "1 object: q"},
		{"class create a {{method g {} {}} {method f {} {}} {filter p q p} {field y x}}; class create b {}; class create c {{superclass a b a} {mixin b}}; list [class superclasses c] [class mixins c] [class methods a] [class filters a] [class fields a] [class order c]", "0 {::a ::b} ::b {f g} {p q} {y x} {::c ::a ::b}"}, {"class create t {}; class create l {{superclass t}}; class create r {{superclass t}}; class create d {{superclass l r}}; class order d", "0 ::d ::l ::r ::t"}, {"class create a {}; a create x; a create y; class instances a", "0 ::x ::y"}, {"class create a {}; rename a b; b create x; rename x y; list [object class y] [class instances b]", "0 ::b ::y"}, {"class create a {}; a create x; rename a {}; object class x", "0 "},
		{"class create m {{method f {} {return m[next]}}}; class create a {{method f {} {return a}}}; class define a mixin m; a create o; list [o f] [object chain o f] [object isa o m] [object isa o a]", "0 ma {::m ::a} 1 1"}, {"class create a {{method f {} {return a}}}; a create o; object define o method f {} {return o[next]}; list [o f] [object chain o f] [object methods o]", "0 oa {{} ::a} f"}, {"class create a {{method f {} {return a}}}; class create m {{method f {} {return m[next]}}}; a create o; object define o mixin m; object define o method f {} {return o[next]}; list [o f] [object chain o f] [object mixins o]", "0 moa {::m {} ::a} ::m"}, {"class create a {{method f x {return f$x}} {method p args {return p[next {*}$args]}} {filter p}}; a create o; list [o f 1] [o p] [object chain o f] [object chain o q]", "0 pf1 p {::a ::a} {}"}, {"class create a {{filter p} {method p args {next {*}$args}}}; [a new] q", "1 method: q"}, {"class create a {{forward ls list x} {method f {} {my ls 1}}}; a create o; list [o ls y] [o f]", "0 {x y} {x 1}"}, {"class create a {{forward f nope}}; [a new] f", "1 command: nope"}, {"class create a {{forward f info level}}; a create o; proc p {} {o f}; p", "0 1"},
		{"class create a {{method f {} {list [self] [self class] [self method] [info level 0] [namespace current]}}}; a create o; o f", "0 ::o ::a f {o f} ::oo::1"}, {"class create a {{method f {} {self q}}}; [a new] f", "1 option: q"}, {"self", "1 method: self"}, {"next", "1 method: next"}, {"my f", "1 method: my"}, {"self a b", "1 words: self"}, {"my", "1 words: my"}, {"class create a {}; a create o; object define o method f {} {self class}; o f", "0 "}, {"class create a {{method f {} {next}}}; [a new] f", "0 "}, {"class create a {{method f {} {my g 1}} {method g x {return g$x}}}; [a new] f", "0 g1"}, {"class create a {{method f {} {my q}}}; [a new] f", "1 method: q"}, {"class create a {{method f x {}}}; a create o; o f", "1 words: o"}, {"class create a {{method f {} {my g}} {method g x {}}}; [a new] f", "1 words: my"}, {"class create a {{field x} {method f x {set x}} {method g {} {info exists x}}}; a create o; list [o f 5] [o g]", "0 5 0"}, {"class create a {{method f {} {return -code return 5}}}; a create o; proc p {} {o f; error no}; p", "0 5"}, {"class create a {{method f {} {break}}}; [a new] f", "1 code: break"}, {"class create a {{method f {} {tailcall list t}}}; [a new] f", "0 t"},
		{base + "class create a {{destructor {log a}}}; class create b {{superclass a} {destructor {log b; next}}}; b create o; object delete o; list $log [info commands o] [namespace exists ::oo::1]", "0 {b a} {} 0"}, {base + "class create a {{destructor {log d; object delete [self]; error q}}}; a create o; object delete o; set log", "0 d"}, {base + "class create a {{destructor {log [self]}}}; class create b {{superclass a}}; a create x; b create y; a create z; class delete a; list $log [info commands ?]", "0 {::y ::x ::z} {}"}, {"class create m {}; class create a {{mixin m}}; a create o; object define o mixin m; class delete m; list [class mixins a] [object mixins o]", "0 {} {}"}, {"class delete q", "1 class: q"}, {"class create a {{method f {} {object delete [self]; list [self] gone}}}; a create o; o f", "0 {} gone"}, {"class create a {{method f {} {return a}}}; class create b {{method f {} {return b}}}; a create o; object define o class b; list [o f] [class instances a] [class instances b]", "0 b {} ::o"}, {"class create a {}; a create o; object define o superclass a", "1 option: superclass"}, {"class create a {}; a create o; rename o {}; class instances a", "0 {}"}, {"class create a {{method f {} {return 1}}}; a create o; class define a method f {} {return 2}; o f", "0 2"}, {"class create a {{field x} {method i {} {incr x}}}; a create p; a create q; p i; p i; list [p i] [q i]", "0 3 1"}, {"proc o {} {}; class create a {}; a create o; o", "1 words: o"}, {"class create a {{constructor {} {object delete [self]}}}; a create o", "0 "},
	} {
		o := New().Eval(c.script, 2000)
		if got := fmt.Sprintf("%d %s", o.Code, o.Text); got != c.want {
			t.Errorf("case %d, %.160q: %.90q, not %.90q", i, strings.TrimPrefix(c.script, base), got, c.want)
		}
	}
	x := New()
	x.Eval("class create a {{destructor {while 1 {}}}}; a create o", 100)
	if o := x.Eval("object delete o", 50); o.Code != api.CStop {
		t.Errorf("%v", o)
	}
	if o := x.Eval("class define a destructor {}; object delete o; info commands o", 50); o.Code != 0 || o.Text != "" {
		t.Errorf("deleted again: %v", o)
	}
	x.Eval("class create s {{method f {} {next}} {method g {} {my f}}}; s create o", 100)
	x.Eval("o g", 50)
	if x.Left() != 50-3 {
		t.Errorf("%d steps", 50-x.Left())
	}
}

func TestOrders(t *testing.T) {
	type l = [][]int
	for _, c := range []struct {
		supers l
		class  int
		want   []int
		e      api.Errno
	}{{l{{1, 2}, {3}, {3}, {}}, 0, []int{0, 1, 2, 3}, 0}, {l{{}}, 0, []int{0}, 0}, {l{{1}}, 0, nil, 7}, {l{{}}, 1, nil, 7}, {l{{}}, -1, nil, 7}, {l{{1}, {0}}, 0, nil, 9}, {l{{0}}, 0, nil, 9}, {make(l, 101), 0, nil, 7}, {l{{1, 1}, {}}, 0, []int{0, 1}, 0}, {l{{1, 2}, {2}, {}}, 0, []int{0, 1, 2}, 0}, {l{{2, 1}, {2}, {}}, 0, []int{0, 1, 2}, 0}} {
		got, e := Order(c.supers, c.class)
		if !slices.Equal(got, c.want) || e != c.e {
			t.Errorf("Order(%v, %d) = %v, %d", c.supers, c.class, got, e)
		}
	}
	for _, c := range []struct {
		supers, mixins l
		class          int
		want           []int
		e              api.Errno
	}{{l{{1}, {}, {}, {}}, l{{2}, {3}, {}, {}}, 0, []int{2, 0, 3, 1}, 0}, {l{{}}, nil, 5, nil, 1}, {l{{}}, l{{1}}, 0, nil, 7}, {l{{}, {}}, l{{1}, {0}}, 0, []int{1, 0}, 0}, {l{{1}, {0}}, l{{}, {}}, 0, nil, 9}, {l{{}, {}, {}}, l{{1, 2}, {2}, {}}, 0, []int{2, 1, 0}, 0}, {l{{}, {0, 3}, {}, {}}, l{{1, 2}, {}, {}, {}}, 0, []int{1, 3, 2, 0}, 0}} {
		got, e := Mixed(c.supers, c.mixins, c.class)
		if !slices.Equal(got, c.want) || e != c.e {
			t.Errorf("Mixed(%v, %v, %d) = %v, %d", c.supers, c.mixins, c.class, got, e)
		}
	}
	many, twice := make(l, 100), make(l, 100)
	for i := range 99 {
		many[i], twice[i] = []int{i + 1, 99}, []int{i + 1, i + 1, 99}
	}
	if got, e := Order(many, 0); len(got) != 100 || e != 0 {
		t.Error("Order of many")
	}
	if got, e := Mixed(many, twice, 0); len(got) != 100 || e != 0 {
		t.Error("Mixed of many")
	}
	if strings.Join(Commands(), " ") != "class my next object self" {
		t.Errorf("Commands = %q", Commands())
	}
}

func TestNamesAndEnds(t *testing.T) {
	for script, want := range map[string]string{
		"class create a {{method p args {lappend ::l [self method]; next {*}$args}} {method f {} {lappend ::l [self method]}} {filter p}}; [a new] f; set l": "0 p f",
		"class create a {{constructor {} {lappend ::l [self method]}} {destructor {lappend ::l [self method]}}}; object delete [a new]; set l":               "0 constructor destructor",
		"set n 0; class create a {{destructor {if {[incr ::n] < 3} {a new}}}}; a new; class delete a; list $n [info commands ::oo::*] [catch {a new}]":       "0 3 {} 1",
		"class create a {{destructor {class delete a; lappend ::l d}}}; a create o; class delete a; list $l [info commands a] [info commands o]":             "0 d {} {}",
		"class create a {{destructor {class create b {{superclass a}}}}}; a new; class delete a; info commands b":                                            "0 ",
	} {
		o := New().Eval(script, 2000)
		if got := fmt.Sprintf("%d %s", o.Code, o.Text); got != want {
			t.Errorf("%q: %q, not %q", script, got, want)
		}
	}
}
