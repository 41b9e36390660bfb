package shelf

// The library: its scripts are constants.

const (
	setsVersion  = "1.0"
	queueVersion = "1.0"
	csvVersion   = "1.1"
	tallyVersion = "1.0"
)

const setsSource = `namespace eval ::sets {
  proc of args {lunion $args {}}
  proc has {s x} {expr {$x in $s}}
  proc add {s args} {lunion $s $args}
  proc drop {s args} {ldiff $s $args}
  proc union args {set r {}; foreach s $args {set r [lunion $r $s]}; return $r}
  proc meet {s args} {foreach t $args {set s [lcommon $s $t]}; return $s}
  proc less {s t} {ldiff $s $t}
  proc same {s t} {expr {[llength [ldiff $s $t]] == 0 && [llength [ldiff $t $s]] == 0}}
  proc subsets s {
    set r {{}}
    foreach x $s {foreach t $r {lappend r [concat $t [list $x]]}}
    return $r
  }
}
package provide sets 1.0`

const queueSource = `namespace eval ::queue {
  variable n 0
  proc new {} {variable n; incr n; variable q$n {}; return ::queue::q$n}
  proc put {q args} {upvar #0 $q v; foreach x $args {lappend v $x}; llength $v}
  proc get q {
    upvar #0 $q v
    if {[llength $v] == 0} {error empty}
    set x [lindex $v 0]
    set v [lrange $v 1 end]
    return $x
  }
  proc size q {upvar #0 $q v; llength $v}
}
package provide queue 1.0`

const csvSource = `namespace eval ::csv {
  proc field s {
    if {[string first \" $s] < 0 && [string first , $s] < 0 && [string first \n $s] < 0} {return $s}
    return \"[string map {\" \"\"} $s]\"
  }
  proc line l {join [lmap x $l {field $x}] ,}
  proc fields s {
    set r {}
    set f {}
    set in 0
    set n [string length $s]
    for {set i 0} {$i < $n} {incr i} {
      set c [string index $s $i]
      if {$in} {
        if {$c ne "\""} {append f $c; continue}
        if {[string index $s [expr {$i + 1}]] eq "\""} {append f $c; incr i} else {set in 0}
      } elseif {$c eq "\""} {
        set in 1
      } elseif {$c eq ","} {
        lappend r $f
        set f {}
      } else {
        append f $c
      }
    }
    lappend r $f
  }
}
package provide csv 1.1`

const tallySource = `package require sets 1.0
namespace eval ::tally {
  proc count l {set d {}; foreach x $l {dict incr d $x}; return $d}
  proc most l {
    set best {}
    set n 0
    dict for {k v} [count $l] {if {$v > $n} {set best $k; set n $v}}
    return $best
  }
  proc kinds l {llength [sets::of {*}$l]}
}
package provide tally 1.0`
