package core

import (
	"threadbare/api"
	"threadbare/big"
)

// Sub is what a sub word does, with from least to most words behind it (most below 0: any number).
type Sub[T any] struct {
	Least, Most int
	Do          func(T) api.Outcome
}

// Subs is a command of sub words; each is asked of what with makes of the machine and all words.
func Subs[T any](subs map[string]Sub[T], with func(x *Machine, words []string) T) Do {
	return func(x *Machine, words []string) api.Outcome {
		if len(words) < 2 {
			return Wrong(words)
		}
		s, ok := subs[words[1]]
		switch {
		case !ok:
			return Fail("option", words[1])
		case !Count(words[1:], s.Least, s.Most):
			return Wrong(words)
		}
		return s.Do(with(x, words))
	}
}

// Asker is a machine that is asked something with words; the first two are a command and its sub word.
type Asker struct {
	*Machine
	Words []string
}

// Ask makes an asker.
func Ask(x *Machine, words []string) Asker { return Asker{x, words} }

// Arg returns a word behind the sub word, from 0 on; empty if it is not there.
func (a Asker) Arg(i int) string {
	if i+2 < len(a.Words) {
		return a.Words[i+2]
	}
	return ""
}

// Args returns the words behind the sub word.
func (a Asker) Args() []string { return a.Words[2:] }

// Pattern returns the glob pattern that a word is; one that is not there matches all.
func (a Asker) Pattern(i int) string {
	if i+2 < len(a.Words) {
		return a.Words[i+2]
	}
	return "*"
}

// Far is what Int tells of numbers that fit no int; their opposites below 0.
const Far = 1 << 62

// Int returns a number as an int; one that does not fit is a far one.
func Int(s string) (int, api.Outcome) {
	n, e := big.Int(s)
	if e == api.OK {
		return n, api.Outcome{}
	}
	below, e := big.Sign(s)
	switch e {
	case api.ErrSyntax:
		return 0, Fail("number", s)
	case api.ErrLimit:
		return 0, Problem("long")
	}
	return Far * below, api.Outcome{}
}
