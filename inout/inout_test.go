package inout

import (
	"fmt"
	"slices"
	"strings"
	"testing"

	"threadbare/api"
	"threadbare/core"
)

func told(x *core.Machine, script string) string {
	o := x.Eval(script, 5000)
	return fmt.Sprintf("%d %s", o.Code, o.Text)
}

func TestScripts(t *testing.T) {
	for i, c := range []struct{ script, want string }{
		{"set f [open /a w]; puts $f hi; close $f; file get /a", "0 hi\n"}, {"channels", "0 stderr stdin stdout"}, {"list [open /a w] [pair] [open /b w]; channels {[pf]*}", "0 file1 file4 pipe2 pipe3"}, {"catch {open /q}; open /a w", "0 file1"}, {"puts a b c", "1 words: puts"}, {"puts -nonewline a b c", "1 words: puts"}, {"puts q x", "1 channel: q"}, {"puts stdin x", "1 write: stdin"}, {"gets stdout", "1 read: stdout"}, {"read q", "1 channel: q"}, {"read stdin x", "1 number: x"}, {"gets stdin", "0 "}, {"list [gets stdin l] $l [blocked stdin] [eof stdin]", "0 -1 {} 1 0"}, {"flush stdin", "1 write: stdin"}, {"close stdout", "1 channel: stdout"}, {"close q", "1 channel: q"}, {"eof stdout", "0 0"}, {"puts -nonewline -nonewline", "0 "},
		{"file put /a \"x\\ny\\nz\"; set f [open /a]; set l {}; while {[gets $f s] >= 0} {lappend l $s}; list $l [eof $f] [blocked $f] [tell $f]", "0 {x y z} 1 0 5"}, {"file put /a abcdef; set f [open /a]; list [read $f 2] [tell $f] [eof $f] [read $f] [eof $f] [read $f]", "0 ab 2 0 cdef 1 {}"}, {"file put /a a\\r\\nb\\rc; set f [open /a]; list [gets $f] [gets $f] [tell $f] [gets $f]", "0 a b 5 c"}, {"file put /a a\\r\\nb; set f [open /a]; configure $f -in lf; gets $f", "0 a\r"}, {"set f [open /a w]; puts $f x", "0 "}, {"set f [open /a w]; puts $f x; file get /a", "0 "}, {"set f [open /a w]; puts $f x; flush $f; file get /a", "0 x\n"}, {"set f [open /a w]; configure $f -buffering line -out crlf; puts $f x; file get /a", "0 x\r\n"}, {"set f [open /a w+]; puts -nonewline $f hello; seek $f 1; list [read $f] [seek $f 0] [tell $f]", "0 ello 0 0"}, {"set f [open /a w]; seek $f -1", "1 range: -1"}, {"set f [open /a w]; seek $f x", "1 number: x"}, {"seek stdin 0", "1 seek: stdin"}, {"tell stdout", "1 seek: stdout"}, {"set f [open /a w]; read $f", "1 read: file1"}, {"file put /a x; set f [open /a]; puts $f y", "1 write: file1"}, {"file put /a x; set f [open /a a]; puts -nonewline $f y; close $f; file get /a", "0 xy"}, {"file put /a x; set f [open /a]; close $f; read $f", "1 channel: file1"},
		{"open /a q", "1 option: q"}, {"open /a", "1 file: /a"}, {"open /q/a w", "1 file: /q/a"}, {"open a\\x00 w", "1 file: a\x00"}, {"open /[string repeat x 61] w", "1 file: long"}, {"for {set i 0} {$i < 51} {incr i} {open /a w}", "1 file: long"}, {"set f [open /a w]; for {set i 0} {$i < 17} {incr i} {puts $f [string repeat x 65000]}", "1 file: long"},
		{"lassign [pair] a b; puts $a hi; list [gets $b] [blocked $b]", "0 {} 1"}, {"lassign [pair] a b; puts $a hi; flush $a; list [gets $b] [eof $b]", "0 hi 0"}, {"lassign [pair] a b; puts $a hi; close $a; list [gets $b] [eof $b] [gets $b] [eof $b]", "0 hi 0 {} 1"}, {"lassign [pair] a b; close $a; puts $b x; flush $b; close $b; channels p*", "0 "}, {"lassign [pair] a b; lay $b hex; puts -nonewline $a zz; flush $a", "1 broken: pipe1"}, {"lassign [pair] a b; lay $b hex; puts -nonewline $a zz; list [catch {close $a} m] $m [channels p*]", "0 1 {broken: pipe1} pipe2"}, {"lassign [pair] a b; lay $a hex; lay $b hex; puts -nonewline $a hi; flush $a; read $b", "0 hi"}, {"lassign [pair] a b; lay $a rot; lift $a; lift $a", "1 filter: pipe1"}, {"lay stdout q", "1 filter: q"}, {"set f [open /a w]; lay $f rot", "1 filter: rot"}, {"lassign [pair] a b; puts -nonewline $a abc; flush $a; list [read $b 2] [blocked $b] [read $b 2] [blocked $b]", "0 ab 0 c 1"},
		{"configure stdout", "0 -buffering line -buffersize 4096 -in auto -out lf"}, {"configure stdout -buffering", "0 line"}, {"configure stdout -q", "1 option: -q"}, {"configure stdout -q x", "1 option: -q"}, {"configure stdout -buffering q", "1 value: q"}, {"configure stdout -buffersize 0", "1 value: 0"}, {"configure stdout -in cr -out", "1 words: configure"}, {"configure stdout -in cr -out q; list", "1 value: q"}, {"catch {configure stdout -in cr -out q}; configure stdout -in", "0 cr"}, {"configure", "1 words: configure"}, {"file put /a abc; set f [open /a]; list [copy $f stderr 2] [copy $f stderr]", "0 2 1"}, {"copy stdin stdin", "1 channel: stdin"}, {"copy stdin q", "1 channel: q"}, {"copy stdout stdin", "1 read: stdout"}, {"copy stdin stdout x", "1 number: x"}, {"lassign [pair] a b; copy $a stdin", "1 write: stdin"},
		{"list [file exists /a] [file isfolder /] [file isfile /]", "0 0 1 0"}, {"file mkdir /a/b c; file put a/f xy; list [file list /] [file size /a/f] [file isfile a/f] [file list a]", "0 {a c} 2 1 {b f}"}, {"file size /a", "1 file: /a"}, {"file size /", "1 file: /"}, {"file delete /q", "0 "}, {"file delete /", "1 file: /"}, {"file mkdir a/b; file put a/f x; file delete a; file exists a", "0 0"}, {"file put /a x; file mkdir /a", "1 file: /a"}, {"file put /a x; file rename a b; list [file exists a] [file get b]", "0 0 x"}, {"file rename q b", "1 file: q"}, {"file put /a x; file rename a q/b", "1 file: q/b"}, {"file rename q b\\x00", "1 file: b\x00"}, {"file mkdir a; file copy a b", "1 file: b"}, {"file put a x; file copy a b; file get b", "0 x"}, {"file join a b/ c", "0 a/b/c"}, {"file join a /b c", "0 /b/c"}, {"file join", "0 "}, {"file split /a//b", "0 a b"}, {"list [file name /a/b.c] [file parent /a/b] [file ending x.y] [file normal ../q]", "0 b.c /a .y /q"}, {"file get /q", "1 file: /q"}, {"file put /q/x 1", "1 file: /q/x"}, {"file list /q", "1 file: /q"}, {"file", "1 words: file"}, {"file q x", "1 option: q"}, {"file get", "1 words: file"}, {"file exists [string repeat x 61]", "1 file: long"},
		{"file mkdir /a; cd a; list [pwd] [file normal x]", "0 /a /a/x"}, {"cd q", "1 file: q"}, {"file mkdir a; cd a; cd; pwd", "0 /"}, {"file put x1 a; file put x2 b; file put y c; files x*", "0 x1 x2"}, {"file mkdir /a; cd /a; file delete /a; files *", "1 file: /a"}, {"file mkdir /a; cd /a; file delete /a; file put x y", "1 file: x"}, {"file put /a x; cd a", "1 file: a"},
		{"interp create -safe c; interp eval c {file exists /}", "1 command: file"}, {"interp create -safe c; interp eval c {open /a w}", "1 command: open"}, {"interp create -safe c; interp hidden c", "0 cd file files open"}, {"interp create c; interp eval c {file put /a x}; file exists /a", "0 0"}, {"interp create c; interp eval c {channels}", "0 stderr stdin stdout"},
	} {
		if got := told(New(), c.script); got != c.want {
			t.Errorf("case %d, %.120q: %.90q, not %.90q", i, c.script, got, c.want)
		}
	}
}

func TestOutside(t *testing.T) {
	x := New()
	told(x, "puts hi; puts -nonewline there; puts stderr err; puts -nonewline stderr x")
	if s := Out(x, "stdout"); s != "hi\n" || Out(x, "stdout") != "" {
		t.Errorf("stdout: %q", s)
	}
	if s := Out(x, "stderr"); s != "err\nx" {
		t.Errorf("stderr: %q", s)
	}
	told(x, "flush stdout")
	if s := Out(x, "stdout"); s != "there" || Out(x, "stdin") != "" || Out(x, "q") != "" {
		t.Errorf("stdout: %q", s)
	}
	told(x, "pair; open /f w")
	for i, c := range []struct{ got, want api.Errno }{{Feed(x, "q", ""), 5}, {Feed(x, "stdout", ""), 11}, {Feed(x, "file3", ""), 11}, {Feed(x, "stdin", "a\nb"), 0}, {Feed(x, "pipe1", "p\n"), 0}, {Feed(x, "stdin", strings.Repeat("x", 2000000)), 4}, {Feed(nil, "stdin", ""), 5}, {End(x, "q"), 5}, {End(x, "stderr"), 11}, {End(x, "pipe1"), 0}, {End(x, "pipe1"), 9}, {Feed(x, "pipe1", ""), 9}} {
		if c.got != c.want {
			t.Errorf("case %d: %d, not %d", i, c.got, c.want)
		}
	}
	if got := told(x, "list [gets stdin] [gets stdin] [read stdin] [gets pipe1] [gets pipe1] [eof pipe1]"); got != "0 a {} b p {} 1" {
		t.Errorf("fed: %s", got)
	}
	End(x, "stdin")
	if got := told(x, "list [gets stdin l] [eof stdin]"); got != "0 -1 1" {
		t.Errorf("ended: %s", got)
	}
	y := New()
	told(y, "lay stdin hex")
	if Feed(y, "stdin", "61zz") != api.ErrKind || Feed(y, "stdin", "") != api.ErrKind || told(y, "read stdin") != "0 a" {
		t.Error("a broken channel")
	}
	told(x, "file put /b 2; file mkdir /c; file put /a 1; set f [open /d w]; puts $f lost")
	if l := Tell(x); !slices.Equal(l, []string{"/a", "1", "/b", "2", "/d", "", "/f", ""}) || Tell(nil) != nil {
		t.Errorf("Tell = %q", l)
	}
	z := New()
	told(z, "interp create -safe c; interp eval c {puts hi}")
	if s := Out(z, "stdout"); s != "hi\n" {
		t.Errorf("a safe child tells %q", s)
	}
	Feed(z, "stdin", strings.Repeat("x", 70000)+"\nnext\n")
	if got := told(z, "list [catch {gets stdin} m] $m [gets stdin]"); got != "0 1 long next" {
		t.Errorf("a long line: %s", got)
	}
	Feed(z, "stdin", strings.Repeat("x", 70000))
	if got := told(z, "list [string length [read stdin]] [string length [read stdin -1]]"); got != "0 65536 4464" {
		t.Errorf("read: %s", got)
	}
	if got := strings.Join(Commands(), " "); got != "blocked cd channels close configure copy eof file files flush gets lay lift open pair puts pwd read seek tell" {
		t.Errorf("Commands = %s", got)
	}
}
