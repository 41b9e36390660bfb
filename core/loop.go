package core

import "threadbare/api"

// Goes reports whether a loop goes on behind the outcome of its body; if not, out is the loop's.
func Goes(o api.Outcome) (goes bool, out api.Outcome) {
	switch o.Code {
	case api.CContinue:
		fallthrough
	case api.COk:
		return true, api.Outcome{}
	case api.CBreak:
		return false, api.Outcome{}
	}
	return false, o
}

// Rounds does rounds, each of which begins with a step, until one does not go on.
func (x *Machine) Rounds(round func() (goes bool, out api.Outcome)) api.Outcome {
	for {
		if o := x.Step(); Bad(o) {
			return o
		}
		if goes, out := round(); !goes {
			return out
		}
	}
}
