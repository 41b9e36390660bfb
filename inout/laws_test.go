package inout

import (
	"fmt"
	"math/rand"
	"strings"
	"testing"
)

func TestLaws(t *testing.T) {
	r := rand.New(rand.NewSource(4))
	for range 200 {
		text := ""
		for range r.Intn(6) {
			text += []string{"line", "", "a b", "x"}[r.Intn(4)] + "\n"
		}
		text += []string{"", "last"}[r.Intn(2)]
		out, in := New(), New()
		out.Set("text", text)
		told(out, fmt.Sprintf("configure stdout -buffering %s -buffersize %d", []string{"none", "line", "full"}[r.Intn(3)], 1+r.Intn(9)))
		for rest := text; rest != ""; {
			n := 1 + r.Intn(len(rest))
			out.Set("piece", rest[:n])
			told(out, "puts -nonewline $piece")
			Feed(in, "stdin", rest[:n])
			rest = rest[n:]
		}
		told(out, "flush stdout")
		if got := Out(out, "stdout"); got != text {
			t.Fatalf("%q left stdout, not %q", got, text)
		}
		End(in, "stdin")
		lines := told(in, "set l {}; while {[gets stdin s] >= 0} {lappend l $s}; join $l |")
		if want := "0 " + strings.ReplaceAll(strings.TrimSuffix(text, "\n"), "\n", "|"); lines != want {
			t.Fatalf("%q was fed: %q, not %q", text, lines, want)
		}
		told(out, "set f [open /f w]; puts -nonewline $f $text")
		if kept := Tell(out)[1]; len(text) < 4096 && kept != "" {
			t.Fatalf("not flushed, and there: %q", kept)
		}
		told(out, "close $f")
		if got := told(out, "set f [open /f]; set r [read $f]; close $f; set r"); got != "0 "+text {
			t.Fatalf("%q was written, %q read", text, got)
		}
		if got := told(out, "lassign [pair] a b; puts -nonewline $a $text; close $a; read $b"); got != "0 "+text {
			t.Fatalf("%q came through a pair: %q", text, got)
		}
	}
}
