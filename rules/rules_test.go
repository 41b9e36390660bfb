// Package rules holds the rules R1, R3 to R5 and R7 against all functions that the document lists.
package rules

import (
	"fmt"
	"maps"
	"math/rand"
	"reflect"
	"slices"
	"strings"
	"testing"

	"threadbare/api"
	"threadbare/files"
	"threadbare/host"
	"threadbare/machine"
	"threadbare/names"
	"threadbare/pipe"
	"threadbare/shelf"
	"threadbare/table"
	"threadbare/value"
	"threadbare/vars"
)

func words() []string {
	return []string{"", "a", "b", " ", "a b", "{a b}", "a {", "\\", "\"", "[", "]", "$", "$a", "${", "$a(", "1", "-1", "0", "10", "end", "end-1", "x(1)", "::", "::a", "a::b", ":", "(a|b)*c", "(a)\\1", "[a-z]", "(?=a)b", "%d", "%05d", "%s %c", "%[a-z]", "1 + 2", "$a && 0", "f(1,2)", "a*[b]?", "/", "/a", "/a/../b", "r+", "w", "a+", "start", "here", "lf", "crlf", "none", "line", "hex", "rot", "size", "in", "a 1 b 2", "{k v} {x y}", "1.2", "1.2a1", "1-2", "=1", "* * * * *", "*/5 1-3 1 1 1", "%Y-%m-%d", "2000-01-01", "day", "month", "\r\n", "a\nb\n", "\x00\xff", "c3 s2 x @5 a*", "H*", "0x1F", "99999999999999999999999999", "a,b,c", "true", "no", "stdin", "stdout", "script 5 x", "variable", "read write", "{*}{a b}", "1 0 {a}\n2 0 x\n", "\xc3\xa9", "III", "%2D", "&\\1", "+5", "  5  ", "[f [g]]", "set a 1; set b $a", "f.tm", "a-1.tm", "digit"}
}

// maker makes arguments; states are what methods are asked of.
type maker struct {
	*rand.Rand
	states map[reflect.Type]reflect.Value
}

func newMaker(seed int64) *maker {
	p, _ := pipe.New("auto", "crlf", "line", 100)
	m := &maker{rand.New(rand.NewSource(seed)), map[reflect.Type]reflect.Value{}}
	for _, s := range []any{value.NewStore(), p, files.NewStore(), vars.New(), names.New(), table.New(), host.New(), shelf.New()} {
		m.states[reflect.TypeOf(s)] = reflect.ValueOf(s)
	}
	return m
}

func (m *maker) text() string {
	all := words()
	switch m.Intn(8) {
	case 0:
		s := ""
		for range m.Intn(9) {
			s += all[m.Intn(len(all))]
		}
		return s
	case 1:
		b := make([]byte, m.Intn(20))
		for i := range b {
			b[i] = "ab(){}[]$\\\"*+?|^.%:;\n -01"[m.Intn(25)]
		}
		return string(b)
	case 2:
		if m.Intn(20) == 0 {
			return strings.Repeat(all[m.Intn(len(all))], 101)
		}
	}
	return all[m.Intn(len(all))]
}

func (m *maker) number() int {
	all := []int{0, 1, 2, 3, 5, -1, -2, 7, 10, 16, 36, 100, 1000, 65536, 65537, -1 << 63, 1<<63 - 1, 1 << 62, 951782400, -62135596800, 253402300799}
	return all[m.Intn(len(all))]
}

// argument makes one of a type; a slice has spare capacity behind its end.
func (m *maker) argument(t reflect.Type, deep int) reflect.Value {
	if s, ok := m.states[t]; ok {
		if m.Intn(15) == 0 {
			return reflect.Zero(t)
		}
		return s
	}
	switch t {
	case reflect.TypeFor[*value.Value]():
		return reflect.ValueOf(value.New(m.text()))
	case reflect.TypeFor[*machine.Machine]():
		return m.states[t]
	}
	v := reflect.New(t).Elem()
	switch t.Kind() {
	case reflect.String:
		v.SetString(m.text())
	case reflect.Int:
		v.SetInt(int64(m.number()))
	case reflect.Uint8, reflect.Uint64:
		v.SetUint(uint64(m.Intn(256)))
	case reflect.Bool:
		v.SetBool(m.Intn(2) == 0)
	case reflect.Struct:
		for i := range t.NumField() {
			v.Field(i).Set(m.argument(t.Field(i).Type, deep+1))
		}
	case reflect.Slice:
		if deep > 3 {
			return v
		}
		n := m.Intn(5)
		v = reflect.MakeSlice(t, n+2, n+2)
		for i := range n + 2 {
			v.Index(i).Set(m.argument(t.Elem(), deep+1))
		}
		v = v.Slice(0, n)
	}
	return v
}

// shown writes values, with the spare capacity of slices.
func shown(l []reflect.Value) string {
	out := ""
	for _, v := range l {
		if v.Kind() == reflect.Slice {
			v = v.Slice(0, v.Cap())
		}
		if v.Kind() != reflect.Pointer {
			out += fmt.Sprintf("%#v ", v.Interface())
		}
	}
	return out
}

// spoil writes over all slices of values.
func spoil(l []reflect.Value) {
	for _, v := range l {
		if v.Kind() != reflect.Slice {
			continue
		}
		for i := range v.Len() {
			spoil([]reflect.Value{v.Index(i)})
			v.Index(i).SetZero()
		}
	}
}

func results(l []reflect.Value) string {
	var out []reflect.Value
	for _, v := range l {
		if v.Kind() == reflect.Slice {
			v = v.Slice3(0, v.Len(), v.Len())
		}
		out = append(out, v)
	}
	return shown(out)
}

// told reports whether a result may stand beside an error: the places and lines that the document tells of.
func told(name string, i int) bool {
	switch name {
	case "list.Split", "regex.Check", "spell.Format", "spell.Check", "parse.Script", "parse.Parts", "parse.Subst", "expr.Parse", "code.Script", "code.Expr":
		return true
	case "code.Parse", "host.Replay":
		return i == 1
	case "host.Lines":
		return i == 0
	}
	return false
}

func checkErrors(t *testing.T, name string, in string, out []reflect.Value) {
	if len(out) == 0 || out[len(out)-1].Type() != reflect.TypeFor[api.Errno]() || out[len(out)-1].Int() == 0 {
		return
	}
	for i, v := range out[:len(out)-1] {
		if zero := v.IsZero() || v.Kind() == reflect.Slice && v.Len() == 0; !zero && !told(name, i) {
			t.Errorf("%s(%s) = %s: something beside an error", name, in, results(out))
		}
	}
}

// call calls a function, and holds the rules against it.
func call(t *testing.T, m *maker, name string, f reflect.Value) string {
	var in []reflect.Value
	for i := range f.Type().NumIn() {
		in = append(in, m.argument(f.Type().In(i), 0))
	}
	before := shown(in)
	defer func() {
		if p := recover(); p != nil {
			t.Errorf("%s(%s) panics: %v", name, before, p)
		}
	}()
	out := f.Call(in)
	if after := shown(in); after != before {
		t.Errorf("%s(%s) changes its arguments: %s", name, before, after)
	}
	checkErrors(t, name, before, out)
	got := results(out)
	spoil(in)
	if kept := results(out); kept != got {
		t.Errorf("%s(%s) keeps its arguments in its results: %s, then %s", name, before, got, kept)
	}
	return name + " " + before + got
}

func TestRules(t *testing.T) {
	all := calls()
	list := slices.Sorted(maps.Keys(all))
	for seed := range int64(30) {
		m, again := newMaker(seed), newMaker(seed)
		for range 2 * len(list) {
			name := list[m.Intn(len(list))]
			again.Intn(len(list))
			a := call(t, m, name, reflect.ValueOf(all[name]))
			b := call(t, again, name, reflect.ValueOf(all[name]))
			if a != b {
				t.Errorf("the same call tells two things: %s, %s", a, b)
			}
			if t.Failed() {
				return
			}
		}
	}
}

// zeroResults reports whether results are zero values all.
func zeroResults(out []reflect.Value) bool {
	return !slices.ContainsFunc(out, func(v reflect.Value) bool {
		return !v.IsZero() && !(v.Kind() == reflect.Slice && v.Len() == 0)
	})
}

func TestNilReceivers(t *testing.T) {
	m := newMaker(1)
	for name, f := range calls() {
		v := reflect.ValueOf(f)
		if strings.Count(name, ".") < 2 {
			continue
		}
		in := []reflect.Value{reflect.Zero(v.Type().In(0))}
		for i := 1; i < v.Type().NumIn(); i++ {
			in = append(in, m.argument(v.Type().In(i), 0))
		}
		func() {
			defer func() {
				if p := recover(); p != nil {
					t.Errorf("%s of nil panics: %v", name, p)
				}
			}()
			out := v.Call(in)
			last := len(out) - 1
			if last >= 0 && out[last].Type() == reflect.TypeFor[api.Errno]() {
				out = out[:last]
			}
			outcome := len(out) > 0 && out[0].Type() == reflect.TypeFor[api.Outcome]()
			if !outcome && !zeroResults(out) {
				t.Errorf("%s of nil = %s", name, results(out))
			}
		}()
	}
	var x *machine.Machine
	if o := x.Eval("set a 1", 5); o != (api.Outcome{Code: api.CError, Text: "machine"}) || x.Expr("1", 5) != o {
		t.Errorf("Eval of a nil machine: %v", o)
	}
}
