package core

import (
	"strconv"

	"threadbare/api"
	"threadbare/names"
)

// Base is the commands of layer 19.
func Base() Layer {
	return Layer{Name: "machine", Commands: map[string]Do{
		"set":    Counted(1, 2, doSet),
		"unset":  doUnset,
		"list":   func(_ *Machine, words []string) api.Outcome { return Join(words[1:]) },
		"eval":   Counted(1, -1, doEval),
		"expr":   Counted(1, -1, doExpr),
		"catch":  Counted(1, 2, doCatch),
		"error":  Counted(1, 1, func(_ *Machine, words []string) api.Outcome { return Problem(words[1]) }),
		"return": Counted(0, 3, doReturn),
		"rename": Counted(2, 2, doRename),
		"steps":  Counted(0, 0, func(x *Machine, _ []string) api.Outcome { return Done(strconv.Itoa(x.left)) }),
	}}
}

func doSet(x *Machine, words []string) api.Outcome {
	if len(words) == 3 {
		return x.Write(words[1], words[2])
	}
	s, o := x.Read(words[1])
	if Bad(o) {
		return o
	}
	return Done(s)
}

func doUnset(x *Machine, words []string) api.Outcome {
	for _, name := range words[1:] {
		if o := x.Unset(name); Bad(o) {
			return o
		}
	}
	return api.Outcome{}
}

func doEval(x *Machine, words []string) api.Outcome {
	o := Concat(words[1:])
	if Bad(o) {
		return o
	}
	return x.Script(o.Text)
}

func doExpr(x *Machine, words []string) api.Outcome {
	o := Concat(words[1:])
	if Bad(o) {
		return o
	}
	return x.Expression(o.Text)
}

func doCatch(x *Machine, words []string) api.Outcome {
	o := x.Caught(x.Script(words[1]))
	if o.Code == api.CStop {
		return o
	}
	if len(words) == 3 {
		if wrong := x.Write(words[2], o.Text); Bad(wrong) {
			return wrong
		}
	}
	return Done(strconv.Itoa(o.Code))
}

// Code returns the code that a word of return means; false for none.
func Code(word string) (int, bool) {
	for code, name := range [...]string{"ok", "error", "return", "break", "continue"} {
		if word == name || word == strconv.Itoa(code) {
			return code, true
		}
	}
	return 0, false
}

func doReturn(_ *Machine, words []string) api.Outcome {
	o := api.Outcome{Code: api.CReturn}
	if len(words) > 2 {
		if words[1] != "-code" {
			return Wrong(words)
		}
		then, ok := Code(words[2])
		if !ok {
			return Fail("option", words[2])
		}
		o.Then = then
	}
	if len(words) == 2 || len(words) == 4 {
		o.Text = words[len(words)-1]
	}
	return o
}

// Place returns the canonical name of a command that is to be made, if its namespace is there.
func (x *Machine) Place(word string) (string, api.Outcome) {
	name := names.Canonical(x.frame.Space, word)
	if head := names.Head(name); !x.tree.Exists(head) {
		return "", Fail("namespace", head)
	}
	return name, api.Outcome{}
}

func doRename(x *Machine, words []string) api.Outcome {
	old, _, there := x.Name(x.Find(x.frame.Space, words[1]))
	if !there {
		return Fail("command", words[1])
	}
	if words[2] == "" {
		_, o := x.Delete(old)
		return o
	}
	name, o := x.Place(words[2])
	if Bad(o) {
		return o
	}
	e, o := x.Rename(old, name)
	if e != api.OK {
		return Fail("exists", words[2])
	}
	return o
}
