package regex

// The instructions into which patterns are turned.
const (
	iByte    = iota // one byte of the set
	iPlace          // a place: which
	iSplit          // go on at a, or else at b
	iJump           // go on at a
	iOpen           // the group a begins
	iClose          // the group a ends
	iStart          // a round of the loop a begins
	iForward        // the round of the loop a must have taken bytes
	iBack           // what the group a was
	iLook           // look ahead at a, go on at b; not: it must not be there
	iEnd            // all is matched
)

type instruction struct {
	op, a, b int
	set      *[256]bool
	mark     byte
	not      bool
	loops    int // how many loops lie around a split
	row      int // where the tries of a split are kept
}

// program is a pattern in instructions.
type program struct {
	*pattern
	list        []instruction
	fold, lines bool
	loops, most int
	rows        int
}

func compile(p *pattern, fold, lines bool) *program {
	g := &program{pattern: p, fold: fold, lines: lines}
	g.node(p.top)
	g.add(instruction{op: iEnd})
	for i := range g.list {
		if in := &g.list[i]; in.op == iSplit {
			in.row = g.rows
			g.rows += in.loops + 1
		}
	}
	return g
}

func (g *program) add(in instruction) int {
	in.loops = g.loops
	g.list = append(g.list, in)
	return len(g.list) - 1
}

func (g *program) here() int { return len(g.list) }

func (g *program) node(p node) {
	switch p := p.(type) {
	case oneByte:
		g.add(instruction{op: iByte, set: g.bytes(p)})
	case place:
		g.add(instruction{op: iPlace, mark: p.mark})
	case look:
		at := g.add(instruction{op: iLook, not: p.not})
		g.list[at].a = g.here()
		// within a look ahead loops are counted anew: it is tried by itself
		loops := g.loops
		g.loops = 0
		g.node(p.of)
		g.add(instruction{op: iEnd})
		g.loops = loops
		g.list[at].b = g.here()
	case group:
		if p.number > 0 {
			g.add(instruction{op: iOpen, a: p.number})
		}
		g.node(p.of)
		if p.number > 0 {
			g.add(instruction{op: iClose, a: p.number})
		}
	case backward:
		g.add(instruction{op: iBack, a: p.number})
	case repeat:
		g.repeat(p)
	case sequence:
		for _, one := range p {
			g.node(one)
		}
	case choice:
		g.choice(p)
	}
}

func (g *program) bytes(p oneByte) *[256]bool {
	set := p.set
	if g.fold {
		for c := byte('a'); c <= 'z'; c++ {
			both := set[c] || set[c-'a'+'A']
			set[c], set[c-'a'+'A'] = both, both
		}
	}
	if p.not {
		for c := range set {
			set[c] = !set[c]
		}
		if g.lines {
			set['\n'] = false
		}
	}
	return &set
}

func (g *program) choice(c choice) {
	var ends []int
	for i, branch := range c {
		split := -1
		if i+1 < len(c) {
			split = g.add(instruction{op: iSplit})
			g.list[split].a = g.here()
		}
		g.node(branch)
		if split >= 0 {
			ends = append(ends, g.add(instruction{op: iJump}))
			g.list[split].b = g.here()
		}
	}
	for _, i := range ends {
		g.list[i].a = g.here()
	}
}

func (g *program) repeat(p repeat) {
	for range p.from {
		g.node(p.of)
	}
	if p.most < 0 {
		at := g.round(p)
		g.add(instruction{op: iJump, a: at})
		g.skip(p, at)
		return
	}
	var rounds []int
	for range p.most - p.from {
		rounds = append(rounds, g.round(p))
	}
	for _, at := range rounds {
		g.skip(p, at)
	}
}

// round adds one round of a repetition that may be done or not, and returns where that is chosen.
func (g *program) round(p repeat) int {
	at := g.add(instruction{op: iSplit})
	g.add(instruction{op: iStart, a: g.loops})
	g.loops++
	g.most = max(g.most, g.loops)
	g.node(p.of)
	g.loops--
	g.add(instruction{op: iForward, a: g.loops})
	return at
}

// skip lets the choice of a round lead to it, or to here.
func (g *program) skip(p repeat, at int) {
	in := &g.list[at]
	in.a, in.b = at+1, g.here()
	if p.lazy {
		in.a, in.b = in.b, in.a
	}
}
