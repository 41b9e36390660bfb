package strs

import (
	"strconv"

	"threadbare/api"
	"threadbare/binary"
	"threadbare/core"
	"threadbare/list"
	"threadbare/spell"
)

// spelled is the error of a specification.
func spelled(e api.Errno, spec string) api.Outcome {
	switch e {
	case api.OK:
		return api.Outcome{}
	case api.ErrLong, api.ErrLimit:
		return core.Problem("long")
	}
	return core.Fail("format", spec)
}

func doFormat(_ *core.Machine, words []string) api.Outcome {
	s, _, e := spell.Format(words[1], words[2:])
	if o := spelled(e, words[1]); core.Bad(o) {
		return o
	}
	return core.Done(s)
}

func doScan(x *core.Machine, words []string) api.Outcome {
	names := words[3:]
	n, e := spell.Reads(words[2])
	if o := spelled(e, words[2]); core.Bad(o) {
		return o
	}
	if len(names) > 0 && len(names) != n {
		return core.Wrong(words)
	}
	l, _, e := spell.Scan(words[1], words[2])
	if o := spelled(e, words[2]); core.Bad(o) {
		return o
	}
	if len(names) == 0 {
		return core.Join(l)
	}
	for i, s := range l {
		if o := x.Write(names[i], s); core.Bad(o) {
			return o
		}
	}
	return core.Done(strconv.Itoa(len(l)))
}

func binaries() map[string]core.Sub[asker] {
	return map[string]core.Sub[asker]{
		"format": {Least: 1, Most: -1, Do: asker.pack},
		"scan":   {Least: 2, Most: 2, Do: asker.unpack},
		"encode": {Least: 2, Most: 2, Do: asker.encode},
		"decode": {Least: 2, Most: 2, Do: asker.decode},
	}
}

func (a asker) pack() api.Outcome {
	s, e := binary.Pack(a.Arg(0), a.Args()[1:])
	if o := spelled(e, a.Arg(0)); core.Bad(o) {
		return o
	}
	return core.Done(s)
}

func (a asker) unpack() api.Outcome {
	l, _, e := binary.Unpack(a.Arg(1), a.Arg(0))
	if o := spelled(e, a.Arg(1)); core.Bad(o) {
		return o
	}
	return core.Join(l)
}

// encoding is how bytes are written as a text, and read.
type encoding struct {
	encode, decode func(s string) (string, api.Errno)
}

func encodings() map[string]encoding {
	sure := func(encode func(string) string) func(string) (string, api.Errno) {
		return func(s string) (string, api.Errno) { return encode(s), api.OK }
	}
	return map[string]encoding{
		"hex":     {sure(binary.Hex), binary.Unhex},
		"base64":  {sure(binary.Base64), binary.Unbase64},
		"percent": {sure(binary.Percent), binary.Unpercent},
		"latin":   {binary.Latin, binary.Unlatin},
	}
}

func (a asker) coded(which func(encoding) func(string) (string, api.Errno)) api.Outcome {
	c, ok := encodings()[a.Arg(0)]
	if !ok {
		return core.Fail("option", a.Arg(0))
	}
	s, e := which(c)(a.Arg(1))
	return points(s, e, a.Arg(1))
}

func (a asker) encode() api.Outcome {
	return a.coded(func(c encoding) func(string) (string, api.Errno) { return c.encode })
}

func (a asker) decode() api.Outcome {
	return a.coded(func(c encoding) func(string) (string, api.Errno) { return c.decode })
}

// points is the outcome of a text that was made of another one.
func points(s string, e api.Errno, of string) api.Outcome {
	switch e {
	case api.OK:
		return core.Done(s)
	case api.ErrLimit, api.ErrLong:
		return core.Problem("long")
	}
	return core.Fail("binary", of)
}

func numbersOf[T byte | int](l []T) api.Outcome {
	out := make([]string, len(l))
	for i, n := range l {
		out[i] = strconv.Itoa(int(n))
	}
	return core.Join(out)
}

func doAscii(_ *core.Machine, words []string) api.Outcome { return numbersOf([]byte(words[1])) }

func doChar(_ *core.Machine, words []string) api.Outcome {
	var out []byte
	for _, w := range words[1:] {
		n, o := core.Int(w)
		if core.Bad(o) {
			return o
		}
		if n < 0 || n > 255 {
			return core.Fail("range", w)
		}
		out = append(out, byte(n))
	}
	return core.Done(string(out))
}

func doPoints(_ *core.Machine, words []string) api.Outcome {
	l, e := binary.Points(words[1])
	if e != api.OK {
		return core.Fail("binary", words[1])
	}
	return numbersOf(l)
}

func doOfPoints(_ *core.Machine, words []string) api.Outcome {
	var l []int
	for _, w := range words[1:] {
		n, o := core.Int(w)
		if core.Bad(o) {
			return o
		}
		l = append(l, n)
	}
	s, e := binary.OfPoints(l)
	all, _ := list.Join(words[1:])
	return points(s, e, all)
}
