package code

import (
	"slices"
	"strings"

	"threadbare/api"
	"threadbare/expr"
)

const maxList = 100000

// needs is what an instruction takes from the stacks and puts on them; many: it takes as many texts as A tells.
type needs struct {
	texts, gives   int
	command        bool
	begins, ends   bool
	usesA, usesS   bool
	many, jumps    bool
	asks, goesOnly bool
}

func needsOf(op int) needs {
	return [...]needs{
		api.IPush:   {gives: 1, usesS: true},
		api.ILoad:   {gives: 1, usesS: true, asks: true},
		api.IElem:   {texts: 1, gives: 1, usesS: true, asks: true},
		api.IJoin:   {gives: 1, usesA: true, many: true},
		api.IBegin:  {begins: true},
		api.IAdd:    {texts: 1, command: true},
		api.ISpread: {texts: 1, command: true},
		api.ICall:   {gives: 1, command: true, ends: true, asks: true},
		api.IDrop:   {texts: 1},
		api.IOp:     {gives: 1, usesA: true, usesS: true, many: true},
		api.ITruth:  {texts: 1, gives: 1},
		api.IJump:   {usesA: true, jumps: true, goesOnly: true},
		api.IFalse:  {texts: 1, usesA: true, jumps: true},
		api.ITrue:   {texts: 1, usesA: true, jumps: true},
	}[op]
}

// heights are those of both stacks; a place that nothing comes to has none.
type heights struct {
	there           bool
	texts, commands int
}

// meet lets a place be come to with some heights.
func (h *heights) meet(other heights) bool {
	if h.there {
		return *h == other
	}
	*h = other
	return true
}

// measure goes through a list; false if it is not sound.
func measure(c []api.Instr) (most heights, sound bool) {
	if len(c) == 0 || len(c) > maxList {
		return most, false
	}
	places := make([]heights, len(c)+1)
	places[0].there = true
	for i, in := range c {
		h := places[i]
		if !h.there || in.Op < api.IPush || in.Op > api.ITrue {
			return most, false
		}
		n := needsOf(in.Op)
		taken := n.texts
		if n.many {
			taken = in.A
		}
		if in.A < 0 || in.A > 0 && !n.usesA || in.S != "" && !n.usesS || in.Op == api.IOp && in.A == 0 || taken > h.texts || n.command && h.commands == 0 {
			return most, false
		}
		h.texts += n.gives - taken
		if n.begins {
			h.commands++
		}
		if n.ends {
			h.commands--
		}
		most.texts, most.commands = max(most.texts, h.texts), max(most.commands, h.commands)
		if n.jumps && (in.A <= i || in.A > len(c) || !places[in.A].meet(h)) {
			return most, false
		}
		if !n.goesOnly && !places[i+1].meet(h) {
			return most, false
		}
	}
	return most, places[len(c)] == heights{there: true, texts: 1}
}

// Sound reports whether a list is sound.
func Sound(c []api.Instr) bool {
	_, ok := measure(c)
	return ok
}

// Heights returns the greatest heights of the two stacks.
func Heights(c []api.Instr) (texts, commands int, e api.Errno) {
	most, ok := measure(c)
	if !ok {
		return 0, 0, api.ErrInvalid
	}
	return most.texts, most.commands, api.OK
}

// Threaded returns the list in which no jump goes to a jump.
func Threaded(c []api.Instr) ([]api.Instr, api.Errno) {
	if !Sound(c) {
		return nil, api.ErrInvalid
	}
	out := slices.Clone(c)
	// from the end on: what a jump goes to goes there already as far as it can
	for i := len(out) - 1; i >= 0; i-- {
		if in := &out[i]; needsOf(in.Op).jumps && in.A < len(out) && out[in.A].Op == api.IJump {
			in.A = out[in.A].A
		}
	}
	return out, api.OK
}

// Calls returns the number of ICalls.
func Calls(c []api.Instr) int {
	n := 0
	for _, in := range c {
		if in.Op == api.ICall {
			n++
		}
	}
	return n
}

// Loads returns the variables that are loaded.
func Loads(c []api.Instr) []string {
	var out []string
	for _, in := range c {
		if in.Op == api.ILoad || in.Op == api.IElem {
			out = append(out, in.S)
		}
	}
	slices.Sort(out)
	return slices.Compact(out)
}

// Plain reports whether a list is sound and asks no machine.
func Plain(c []api.Instr) bool {
	return Sound(c) && !slices.ContainsFunc(c, func(in api.Instr) bool { return needsOf(in.Op).asks })
}

// Run runs a plain list.
func Run(c []api.Instr) (result, problem string, e api.Errno) {
	if !Plain(c) {
		return "", "", api.ErrInvalid
	}
	var stack []string
	for at := 0; at < len(c); at++ {
		in := c[at]
		n := needsOf(in.Op)
		if n.many {
			n.texts = in.A
		}
		args := stack[len(stack)-n.texts:]
		stack = stack[:len(stack)-n.texts]
		made := ""
		switch in.Op {
		case api.IPush:
			made = in.S
		case api.IJoin:
			made = strings.Join(args, "")
		case api.IOp:
			made, problem = Operate(in.S, args)
		case api.ITruth:
			made, problem = truth(args[0])
		case api.IJump:
			at = in.A - 1
		case api.IFalse, api.ITrue:
			if args[0] == [...]string{"0", "1"}[in.Op-api.IFalse] {
				at = in.A - 1
			}
		}
		if problem == "" && len(made) > api.MaxText {
			problem = "long"
		}
		if problem != "" {
			return "", problem, api.OK
		}
		if n.gives > 0 {
			stack = append(stack, made)
		}
	}
	return stack[0], "", api.OK
}

// Operate does the operator or function of an IOp.
func Operate(s string, args []string) (result, problem string) {
	if name, call := strings.CutSuffix(s, "()"); call {
		return expr.Call(name, args)
	}
	return expr.Apply(s, args)
}

func truth(s string) (string, string) {
	is, problem := expr.Truth(s)
	switch {
	case problem != "":
		return "", problem
	case is:
		return "1", ""
	}
	return "0", ""
}
