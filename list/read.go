package list

import (
	"iter"
	"strings"

	"threadbare/text"
)

// element is one that was read; end is behind it.
type element struct {
	text  string
	end   int
	wrong bool
}

// The kinds of elements.
const (
	bare = iota
	braced
	quoted
)

func kindOf(c byte) int {
	switch c {
	case '{':
		return braced
	case '"':
		return quoted
	}
	return bare
}

// elements yields where each element begins, and what it is, up to the first one that is wrong.
func elements(s string) iter.Seq2[int, element] {
	readers := [...]func(s string, at int) (string, int, bool){bare: readBare, braced: readBraced, quoted: readQuoted}
	return func(yield func(int, element) bool) {
		for at := skip(s, 0); at < len(s); {
			word, end, ok := readers[kindOf(s[at])](s, at)
			if ok && end < len(s) && !text.White(s[end]) {
				ok = false
			}
			if !yield(at, element{word, end, !ok}) || !ok {
				return
			}
			at = skip(s, end)
		}
	}
}

func skip(s string, at int) int {
	for at < len(s) && text.White(s[at]) {
		at++
	}
	return at
}

func readBare(s string, at int) (string, int, bool) {
	end, slashes := at, false
	for end < len(s) && !text.White(s[end]) {
		n := 1
		if s[end] == '\\' {
			// an escaped line feed takes the blanks behind it along
			_, n = text.Unescape(s[end:])
			slashes = true
		}
		end += n
	}
	if !slashes {
		return s[at:end], end, true
	}
	return text.Unescaped(s[at:end]), end, true
}

func readBraced(s string, at int) (string, int, bool) {
	open := 0
	for i := at; i < len(s); i++ {
		switch s[i] {
		case '\\':
			i++
		case '{':
			open++
		case '}':
			if open--; open == 0 {
				return s[at+1 : i], i + 1, true
			}
		}
	}
	return "", len(s), false
}

func readQuoted(s string, at int) (string, int, bool) {
	for i := at + 1; i < len(s); i++ {
		switch s[i] {
		case '\\':
			i++
		case '"':
			word := s[at+1 : i]
			if strings.IndexByte(word, '\\') >= 0 {
				word = text.Unescaped(word)
			}
			return word, i + 1, true
		}
	}
	return "", len(s), false
}
