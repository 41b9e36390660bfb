package regex

import "threadbare/api"

// try is where a split was tried: with what groups that are asked for later, and where those that are open began, and
// with how many rounds that took nothing yet (its row tells that).
type try struct {
	row, at int
	groups  [10]uint16
	opens   [10]uint8
}

type ahead struct{ pc, at int }

// undo is something to go back to: a choice, or a register's value.
type undo struct {
	register *int
	value    int
	pc       int
}

// run searches a text by a program.
type run struct {
	*program
	s      string
	whole  bool
	spans  []int // beginnings and ends of groups
	opens  []int // where open groups began
	rounds []int // where rounds of loops began
	stack  []undo
	bits   [][]uint64   // what was tried in vain: bytes of rows
	tried  map[try]bool // likewise, where groups count or the text is short
	seen   map[ahead]bool
	texts  map[string]uint16 // what groups were, by numbers: where it stands does not count
}

func newRun(g *program, s string, whole bool) *run {
	r := &run{program: g, s: s, whole: whole, seen: map[ahead]bool{}, texts: map[string]uint16{}}
	r.spans = make([]int, 2*g.groups+2)
	r.opens = make([]int, g.groups+1)
	r.rounds = make([]int, g.most)
	if g.short {
		r.tried = map[try]bool{}
	} else {
		r.bits = make([][]uint64, g.rows)
	}
	r.clear()
	return r
}

func (r *run) clear() {
	for i := range r.spans {
		r.spans[i] = -1
	}
	for i := range r.opens {
		r.opens[i] = -1
	}
	r.stack = r.stack[:0]
}

// text returns the number of what a group was; 0 if it was not passed.
func (r *run) text(g int) uint16 {
	if r.spans[2*g] < 0 {
		return 0
	}
	is := r.s[r.spans[2*g]:r.spans[2*g+1]]
	n, ok := r.texts[is]
	if !ok {
		n = uint16(len(r.texts) + 1)
		r.texts[is] = n
	}
	return n
}

// again reports whether a split was tried here already, and notes that it is.
func (r *run) again(in *instruction, at int) bool {
	row := in.row
	for k := in.loops - 1; k >= 0 && r.rounds[k] == at; k-- {
		row++
	}
	if r.bits != nil {
		if r.bits[row] == nil {
			r.bits[row] = make([]uint64, len(r.s)/64+1)
		}
		word, bit := &r.bits[row][at/64], uint64(1)<<(at%64)
		was := *word&bit != 0
		*word |= bit
		return was
	}
	t := try{row: row, at: at}
	for _, g := range r.refers {
		t.groups[g], t.opens[g] = r.text(g), uint8(r.opens[g]+1)
	}
	was := r.tried[t]
	r.tried[t] = true
	return was
}

// found forgets what was tried at the end of a match: that was not in vain.
func (r *run) found(end int) {
	clear(r.tried)
	for _, row := range r.bits {
		if row != nil {
			row[end/64] &^= 1 << (end % 64)
		}
	}
}

func (r *run) set(register *int, value int) {
	r.stack = append(r.stack, undo{register: register, value: *register})
	*register = value
}

// back goes back to the last choice.
func (r *run) back() (pc, at int, ok bool) {
	for len(r.stack) > 0 {
		u := r.stack[len(r.stack)-1]
		r.stack = r.stack[:len(r.stack)-1]
		if u.register == nil {
			return u.pc, u.value, true
		}
		*u.register = u.value
	}
	return 0, 0, false
}

// from returns the end of the first way from an instruction and a place.
func (r *run) from(pc, at int) (int, bool) {
	for {
		in := &r.list[pc]
		if in.op == iEnd && (!r.whole || at == len(r.s)) {
			return at, true
		}
		ok := true
		pc, at, ok = r.step(in, pc, at)
		if !ok {
			if pc, at, ok = r.back(); !ok {
				return 0, false
			}
		}
	}
}

// step does one instruction: where it goes on, or false.
func (r *run) step(in *instruction, pc, at int) (int, int, bool) {
	switch in.op {
	case iByte:
		return pc + 1, at + 1, at < len(r.s) && in.set[r.s[at]]
	case iPlace:
		return pc + 1, at, r.place(in.mark, at)
	case iSplit:
		if r.again(in, at) {
			return 0, 0, false
		}
		r.stack = append(r.stack, undo{pc: in.b, value: at})
		return in.a, at, true
	case iJump:
		return in.a, at, true
	case iOpen:
		r.set(&r.opens[in.a], at)
	case iClose:
		r.set(&r.spans[2*in.a], r.opens[in.a])
		r.set(&r.spans[2*in.a+1], at)
		r.set(&r.opens[in.a], -1)
	case iStart:
		r.set(&r.rounds[in.a], at)
	case iForward:
		return pc + 1, at, r.rounds[in.a] != at
	case iBack:
		n, ok := r.backward(in.a, at)
		return pc + 1, at + n, ok
	case iLook:
		return in.b, at, r.ahead(in.a, at) != in.not
	default: // the end, but not that of the text
		return 0, 0, false
	}
	return pc + 1, at, true
}

func (r *run) place(mark byte, at int) bool {
	before, behind := at == 0, at == len(r.s)
	switch mark {
	case '^':
		return before || r.lines && r.s[at-1] == '\n'
	case '$':
		return behind || r.lines && r.s[at] == '\n'
	}
	return (!before && wordByte(r.s[at-1])) != (!behind && wordByte(r.s[at]))
}

// backward returns how many bytes of the group stand here again.
func (r *run) backward(group, at int) (int, bool) {
	from, to := r.spans[2*group], r.spans[2*group+1]
	if from < 0 || at+to-from > len(r.s) {
		return 0, false
	}
	for i := range to - from {
		a, b := r.s[from+i], r.s[at+i]
		if a != b && !(r.fold && lower(a) == lower(b)) {
			return 0, false
		}
	}
	return to - from, true
}

func lower(c byte) byte {
	if c >= 'A' && c <= 'Z' {
		return c + 'a' - 'A'
	}
	return c
}

// ahead reports whether a look ahead has a way; it has neither groups nor back references.
func (r *run) ahead(pc, at int) bool {
	key := ahead{pc, at}
	if known, ok := r.seen[key]; ok {
		return known
	}
	inner := newRun(r.program, r.s, false)
	inner.seen = r.seen
	_, ok := inner.from(pc, at)
	r.seen[key] = ok
	return ok
}

// match returns the spans of the first way from an index.
func (r *run) match(at int) ([]api.Span, bool) {
	r.clear()
	end, ok := r.from(0, at)
	if !ok {
		return nil, false
	}
	out := make([]api.Span, r.groups+1)
	out[0] = api.Span{From: at, To: end}
	for g := 1; g <= r.groups; g++ {
		out[g] = api.Span{From: r.spans[2*g], To: r.spans[2*g+1]}
	}
	r.found(end)
	return out, true
}

// find returns the match of the least index, from or more, that has a way.
func (r *run) find(from int) ([]api.Span, bool) {
	for at := from; at <= len(r.s); at++ {
		if m, ok := r.match(at); ok {
			return m, true
		}
	}
	return nil, false
}
