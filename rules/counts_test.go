package rules

import (
	"slices"
	"strconv"
	"strings"
	"testing"

	"threadbare/api"
	"threadbare/shelf"
)

// counts are how many words commands and sub words take behind them: from least to most, or any number more (-).
const counts = `
set 1 2, unset 0 -, list 0 -, eval 1 -, expr 1 -, catch 1 2, error 1 1, rename 2 2, steps 0 0
while 2 2, for 4 4, break 0 0, continue 0 0, incr 1 2, append 1 -, concat 0 -, subst 1 1, throw 1 1, nop 0 -
proc 3 3, apply 1 -, uplevel 1 -, upvar 2 -, global 1 -, tailcall 1 -
info exists 1 1, info level 0 1, info body 1 1, info args 1 1, info default 3 3, info commands 0 1, info procs 0 1, info vars 0 1, info locals 0 1, info globals 0 1, info complete 1 1
array exists 1 1, array size 1 1, array names 1 2, array get 1 2, array set 2 2, array unset 1 2
string length 1 1, string reverse 1 1, string tolower 1 1, string toupper 1 1, string totitle 1 1, string index 2 2, string range 3 3, string replace 3 4, string insert 3 3, string first 2 3, string last 2 3, string count 2 2, string repeat 2 2, string trim 1 2, string trimleft 1 2, string trimright 1 2, string compare 2 2, string equal 2 2, string match 2 2, string map 2 2, string is 2 2, string quote 1 1, string cat 0 -
format 1 -, binary format 1 -, binary scan 2 2, binary encode 2 2, binary decode 2 2, ascii 1 1, char 0 -, points 1 1, ofpoints 0 -, crc 1 1, sum 1 1
llength 1 1, lindex 1 -, lrange 3 3, lreplace 3 -, linsert 2 -, lreverse 1 1, lrepeat 1 -, lappend 1 -, lset 2 -, lassign 1 -, lsort 1 1, lsearch 2 2, join 1 2, split 1 2, lflat 1 1, ldiff 2 2, lcommon 2 2, lunion 2 2, lcount 2 2, lsum 1 1, lmin 1 1, lmax 1 1, lzip 0 -, lfold 5 5
dict get 1 -, dict exists 1 -, dict getor 3 -, dict set 3 -, dict unset 2 -, dict size 1 1, dict keys 1 2, dict values 1 2, dict merge 0 -, dict remove 1 -, dict append 2 -, dict lappend 2 -, dict incr 2 3, dict for 3 3, dict map 3 3, dict with 2 2, dict invert 1 1, dict alike 2 2, dict filter 3 4
regexp 2 -, regsub 3 4, glob 2 2, rsplit 2 2, rquote 1 1, rcheck 1 1
namespace eval 2 -, namespace current 0 0, namespace exists 1 1, namespace parent 0 1, namespace children 0 2, namespace delete 0 -, namespace qualifiers 1 1, namespace tail 1 1, namespace path 0 1, namespace export 0 -, namespace import 0 -, namespace forget 0 -, namespace origin 1 1, namespace which 1 1, namespace unknown 0 1, namespace ensemble 2 2, variable 1 -
trace add variable 3 3, trace remove command 3 3, trace info execution 1 1
interp create 1 1, interp delete 0 -, interp eval 2 -, interp exists 1 1, interp children 1 1, interp issafe 1 1, interp alias 4 -, interp unalias 2 2, interp aliases 1 1, interp target 2 2, interp hide 2 3, interp expose 2 3, interp hidden 1 1, interp invokehidden 2 -, interp limit 1 2, interp share 4 4, interp transfer 3 3
class create 2 2, class define 2 -, class superclasses 1 1, class mixins 1 1, class methods 1 1, class filters 1 1, class fields 1 1, class order 1 1, class instances 1 1, class delete 1 1, object class 1 1, object mixins 1 1, object methods 1 1, object chain 2 2, object isa 2 2, object vars 1 1, object define 2 -, object delete 1 1, self 0 1, next 0 -, my 1 -
puts 1 2, gets 1 2, read 1 2, eof 1 1, blocked 1 1, flush 1 1, close 1 1, seek 2 2, tell 1 1, open 1 2, pair 0 0, channels 0 1, lay 2 2, lift 1 1, copy 2 3, cd 0 1, pwd 0 0, files 1 1
file exists 1 1, file isfile 1 1, file isfolder 1 1, file size 1 1, file delete 0 -, file mkdir 0 -, file rename 2 2, file copy 2 2, file join 0 -, file split 1 1, file name 1 1, file parent 1 1, file ending 1 1, file normal 1 1, file list 1 1, file get 1 1, file put 2 2
after 1 -, after idle 1 -, after cancel 1 1, after info 0 1, update 0 1, vwait 1 1, now 0 0, event 2 3, bgerrors 0 0, clock format 2 2, clock scan 2 2, clock add 3 3
package provide 1 2, package ifneeded 2 3, package require 1 -, package present 1 -, package names 0 0, package versions 1 1, package forget 0 -, package satisfies 1 -, package prefer 0 1
`

// others are told of by their own chapters: words that come by twos, or in an order.
var others = []string{"return", "if", "foreach", "lmap", "try", "switch", "scan", "configure", "choose"}

func TestCountsOfWords(t *testing.T) {
	var told []string
	for _, line := range strings.Split(strings.TrimSpace(counts), "\n") {
		for _, one := range strings.Split(line, ", ") {
			w := strings.Fields(one)
			name, least, most := w[:len(w)-2], w[len(w)-2], w[len(w)-1]
			told = append(told, w[0])
			from, _ := strconv.Atoi(least)
			to, err := strconv.Atoi(most)
			for n := range max(from, to) + 3 {
				script := strings.Join(name, " ") + strings.Repeat(" x", n)
				o := shelf.New().Eval(script, 50)
				wrong := o.Code == api.CError && o.Text == "words: "+w[0]
				if want := n < from || err == nil && n > to; wrong != want {
					t.Errorf("%q: %d, %q", script, o.Code, o.Text)
				}
			}
		}
	}
	for _, name := range shelf.New().Commands("*") {
		name = strings.TrimPrefix(name, "::")
		if !slices.Contains(told, name) && !slices.Contains(others, name) {
			t.Errorf("how many words does %s take?", name)
		}
	}
}

func TestSubWords(t *testing.T) {
	for _, name := range []string{"info", "array", "string", "binary", "dict", "namespace", "trace", "interp", "class", "object", "file", "clock", "package"} {
		for script, want := range map[string]string{name: "words: " + name, name + " nosuchword": "option: nosuchword", name + " nosuchword a b c d e": "option: nosuchword"} {
			if o := shelf.New().Eval(script, 50); o.Code != api.CError || o.Text != want {
				t.Errorf("%q: %d, %q", script, o.Code, o.Text)
			}
		}
		// what a command is called is told as it is written
		if o := shelf.New().Eval("rename "+name+" other; other", 50); o.Text != "words: other" {
			t.Errorf("%s by another name: %q", name, o.Text)
		}
	}
}

func TestCountsByTwos(t *testing.T) {
	for script, want := range map[string]string{
		"foreach": "foreach", "foreach a": "foreach", "foreach a b": "foreach", "foreach a b c": "", "foreach a b c d": "foreach", "foreach a b c d e": "", "lmap a b": "lmap", "lmap a b {}": "", "lmap a b c d": "lmap", "foreach {} {1 2} {}": "foreach", "lmap {} {} {}": "lmap",
		"upvar": "upvar", "upvar a": "upvar", "upvar 0 a b": "", "upvar 0 a b c": "", "upvar 0": "upvar", "dict create a": "dict", "dict create a b": "", "dict create": "", "dict replace {} a": "dict", "dict replace {} a b": "", "dict update d a": "dict", "dict update d a b": "dict", "dict update d a b c d": "dict",
		"return": "", "return a": "", "return a b": "return", "return a b c": "return", "return -code ok": "", "return -code ok a": "", "return -code ok a b": "return", "puts -nonewline a": "", "puts a b c": "puts", "puts -nonewline a b c": "puts", "puts -nonewline stdout c": "",
		"scan": "scan", "scan a": "scan", "scan a %s": "", "scan a %s b": "", "scan a %s b c": "scan", "scan a %s%s b": "scan", "configure": "configure", "configure stdout": "", "configure stdout -in": "", "configure stdout -in lf": "", "configure stdout -in lf -out": "configure",
		"try": "try", "try a b": "try", "try {} on ok m": "try", "try {} finally": "try", "try {} finally a b": "try", "try {} finally {} on ok m {}": "try", "try {} on ok m {} x": "try", "if": "if", "if 1": "if", "if 1 then": "if", "if 1 a b c": "if", "if 1 a else": "if", "if 1 a elseif": "if", "if 1 a elseif 1": "if", "if 1 a else b c": "if", "if 0 a then b": "if", "if 0 a elseif 0 then": "if", "switch a {}": "switch", "switch a {a}": "switch", "switch a {a b c}": "switch", "switch -glob a": "switch", "switch a {a b}": "", "switch a {a b} c": "switch", "switch a": "switch", "switch": "switch", "choose a": "choose", "choose": "choose", "choose a {a b} c": "choose", "switch -glob": "switch", "switch -- a {a b} c": "switch", "choose a {a}": "choose", "choose a {}": "",
		"interp create -safe x": "", "interp create x y": "interp", "trace add": "trace", "trace add variable x": "trace", "trace info variable": "trace", "trace info variable x y": "trace", "dict filter {} key": "dict", "dict filter {} key a b": "dict", "dict filter {} value a b": "dict", "dict filter {} script a": "dict", "lsort -command x": "lsort", "lsort -command a b": "", "lsearch -start 1 a": "lsearch", "regexp -start 1 a": "regexp", "regexp -start": "regexp", "regexp -inline a b c": "regexp", "string compare -length 1 a": "string", "string compare -length a b": "string", "string compare -nocase a b": "", "subst -novars a b": "subst", "subst -novars": "",
	} {
		o := shelf.New().Eval("set d {}; "+script, 50)
		wrong := strings.HasPrefix(o.Text, "words: ")
		if wrong != (want != "") || wrong && o.Text != "words: "+want {
			t.Errorf("%q: %d, %q", script, o.Code, o.Text)
		}
	}
}

// TestCountsAhead: a wrong number of words is told ahead of all else that is wrong.
func TestCountsAhead(t *testing.T) {
	for _, script := range []string{
		"configure nope a b c", "gets nope a b", "read nope x y", "eof nope x", "close nope x", "seek nope x y", "tell nope x", "open \\{ q r", "lay nope", "lift nope x", "copy nope nope x y", "puts a nope b", "puts -nonewline a b c", "flush stdin x", "cd nope x", "file size nope x",
		"set a(x b c", "incr nope::a x y", "rename nope nope::x y", "catch \\{ a b", "return -x y", "for \\{ \\{", "while \\{", "foreach \\{ \\{", "lmap \\{ \\{", "try \\{ on", "if \\{ \\{ x y",
		"proc nope::f \\{", "upvar #99", "info level x y", "info body nope x", "array get nope::a b c", "lindex", "lrange \\{ x", "lset", "lsearch \\{", "dict replace \\{ a", "dict update a(x b", "dict filter \\{ key a b", "dict filter \\{ script a", "dict create \\{",
		"namespace parent nope x", "namespace ensemble nope::x", "variable", "trace add variable nope::x nope", "trace info command nope x", "interp create x y", "interp eval nope", "interp limit nope x y", "interp share nope nope nope",
		"class create \\{", "class define", "object class nope x", "object chain nope", "event nope", "event nope readable x y", "after idle", "after cancel", "after info x y", "update x y", "clock format x", "package provide x y z", "package ifneeded x",
	} {
		o := shelf.New().Eval("set d {}; "+script, 50)
		if want := "words: " + strings.Fields(script)[0]; o.Code != api.CError || o.Text != want {
			t.Errorf("%q: %d, %q", script, o.Code, o.Text)
		}
	}
}
