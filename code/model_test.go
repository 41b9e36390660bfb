package code

import (
	"math/rand"
	"slices"
	"strings"
	"testing"

	"threadbare/api"
	"threadbare/expr"
)

// Soundness is held against all ways through a list, one by one.

type state struct{ at, texts, commands int }

// walk goes every way; false if one of them is wrong. It notes with which heights each place is come to.
func walk(c []api.Instr, s state, seen map[int]state, most *state) bool {
	if s.at > len(c) {
		return false
	}
	if was, ok := seen[s.at]; ok {
		return was == s
	}
	seen[s.at] = s
	if s.at == len(c) {
		return s.texts == 1 && s.commands == 0
	}
	in := c[s.at]
	next := state{s.at + 1, s.texts, s.commands}
	usesA, usesS, takes, needs := false, false, 0, false
	jump := in.Op >= api.IJump
	switch in.Op {
	case api.IPush, api.ILoad:
		usesS = true
		next.texts++
	case api.IElem:
		usesS, takes = true, 1
		next.texts++
	case api.IJoin:
		usesA, takes = true, in.A
		next.texts++
	case api.IOp:
		usesA, usesS, takes = true, true, in.A
		next.texts++
		if in.A == 0 {
			return false
		}
	case api.IBegin:
		next.commands++
	case api.IAdd, api.ISpread:
		takes, needs = 1, true
	case api.ICall:
		needs = true
		next.texts++
		next.commands--
	case api.IDrop:
		takes = 1
	case api.ITruth:
		takes = 1
		next.texts++
	case api.IJump:
		usesA = true
	case api.IFalse, api.ITrue:
		usesA, takes = true, 1
	default:
		return false
	}
	if in.A < 0 || in.A != 0 && !usesA || in.S != "" && !usesS || takes > s.texts || needs && s.commands == 0 {
		return false
	}
	next.texts -= takes
	most.texts, most.commands = max(most.texts, next.texts), max(most.commands, next.commands)
	if jump {
		there := next
		if there.at = in.A; in.A <= s.at || !walk(c, there, seen, most) {
			return false
		}
	}
	return in.Op == api.IJump || walk(c, next, seen, most)
}

// plainSound is soundness by all ways; each place must have been come to.
func plainSound(c []api.Instr) (most state, ok bool) {
	seen := map[int]state{}
	ok = walk(c, state{}, seen, &most) && len(seen) == len(c)+1
	return most, ok
}

func someInstr(r *rand.Rand, at, n int) api.Instr {
	in := api.Instr{Op: 1 + r.Intn(14)}
	switch in.Op {
	case api.IPush, api.ILoad, api.IElem:
		in.S = "x"
	case api.IJoin:
		in.A = r.Intn(3)
	case api.IOp:
		in.A, in.S = 1+r.Intn(2), "+"
	case api.IJump, api.IFalse, api.ITrue:
		in.A = at + 1 + r.Intn(max(n-at, 1))
	}
	if r.Intn(60) == 0 {
		in.A = r.Intn(4) - 1
	}
	if r.Intn(60) == 0 {
		in.S = "y"
	}
	if r.Intn(60) == 0 {
		in.Op = []int{0, 15, -1, 99}[r.Intn(4)]
	}
	return in
}

func TestSoundByAllWays(t *testing.T) {
	r := rand.New(rand.NewSource(1))
	sound := 0
	for range 100000 {
		n := r.Intn(7)
		c := make([]api.Instr, n)
		for i := range c {
			c[i] = someInstr(r, i, n)
		}
		most, want := plainSound(c)
		if Sound(c) != want {
			t.Fatalf("Sound(%v) = %t", c, !want)
		}
		texts, commands, e := Heights(c)
		threaded, e2 := Threaded(c)
		if !want {
			if texts != 0 || commands != 0 || e != api.ErrInvalid || e2 != api.ErrInvalid || len(threaded) > 0 || Plain(c) {
				t.Fatalf("of %v, which is not sound: %d, %d, %d, %d", c, texts, commands, e, e2)
			}
			continue
		}
		sound++
		if texts != most.texts || commands != most.commands || e != api.OK || e2 != api.OK {
			t.Fatalf("Heights(%v) = %d, %d, not %v", c, texts, commands, most)
		}
		asks := slices.ContainsFunc(c, func(in api.Instr) bool { return in.Op == api.ILoad || in.Op == api.IElem || in.Op == api.ICall })
		if Plain(c) == asks {
			t.Fatalf("Plain(%v)", c)
		}
		for i, in := range c {
			for in.Op >= api.IJump && in.A < len(c) && c[in.A].Op == api.IJump {
				in.A = c[in.A].A
			}
			if threaded[i] != in {
				t.Fatalf("Threaded(%v) = %v", c, threaded)
			}
		}
		if asks {
			continue
		}
		a, wrong, e := Run(c)
		b, wrong2, _ := run(threaded)
		if e != api.OK || a != b || wrong != wrong2 {
			t.Fatalf("Run(%v) = %q, %q, threaded %q, %q", c, a, wrong, b, wrong2)
		}
	}
	if sound < 700 {
		t.Errorf("only %d sound lists", sound)
	}
}

// run runs a list in the plainest way.
func run(c []api.Instr) (result, problem string, e api.Errno) {
	var stack []string
	for at := 0; at < len(c); at++ {
		in, n := c[at], len(stack)
		switch in.Op {
		case api.IPush:
			stack = append(stack, in.S)
		case api.IJoin:
			stack = append(stack[:n-in.A:n-in.A], strings.Join(stack[n-in.A:], ""))
		case api.IDrop:
			stack = stack[:n-1]
		case api.IOp:
			s, wrong := expr.Apply(in.S, stack[n-in.A:])
			if wrong != "" {
				return "", wrong, api.OK
			}
			stack = append(stack[:n-in.A:n-in.A], s)
		case api.ITruth:
			is, wrong := expr.Truth(stack[n-1])
			if wrong != "" {
				return "", wrong, api.OK
			}
			stack = append(stack[:n-1:n-1], map[bool]string{true: "1", false: "0"}[is])
		case api.IJump:
			at = in.A - 1
		case api.IFalse, api.ITrue:
			if stack[n-1] == map[int]string{api.IFalse: "0", api.ITrue: "1"}[in.Op] {
				at = in.A - 1
			}
			stack = stack[:n-1]
		}
	}
	return stack[0], "", api.OK
}

func TestExpressionsRun(t *testing.T) {
	r := rand.New(rand.NewSource(2))
	var some func(deep int) string
	some = func(deep int) string {
		if deep == 0 || r.Intn(5) == 0 {
			return []string{"1", "0", "2", "{a}", "\"b c\"", "true", "no", "{}"}[r.Intn(8)]
		}
		a, b, c := some(deep-1), some(deep-1), some(deep-1)
		switch r.Intn(8) {
		case 0:
			return "(" + a + " ? " + b + " : " + c + ")"
		case 1:
			return "!" + a
		case 2:
			return "max(" + a + ", " + b + ")"
		case 3:
			return "nope(" + a + ")"
		}
		return "(" + a + []string{" && ", " || ", " + ", " == ", " eq ", " / ", " in "}[r.Intn(7)] + b + ")"
	}
	for range 8000 {
		s := some(4)
		n, _, e := expr.Parse(s)
		c, at, e2 := Expr(s)
		if e != api.OK || e2 != api.OK || at != 0 || !Plain(c) {
			t.Fatalf("%q: %d, %d", s, e, e2)
		}
		want, wrong, _ := expr.Evaluate(n)
		if got, problem, e := Run(c); got != want || problem != wrong || e != api.OK {
			t.Fatalf("Run of %q: %q, %q, not %q, %q", s, got, problem, want, wrong)
		}
	}
}
