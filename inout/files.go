package inout

import (
	"strconv"
	"strings"

	"threadbare/api"
	"threadbare/core"
	"threadbare/files"
)

// fileError is the error of layer 13 with a path.
func fileError(e api.Errno, path string) api.Outcome {
	switch e {
	case api.OK:
		return api.Outcome{}
	case api.ErrLimit, api.ErrLong:
		return full()
	}
	return core.Fail("file", path)
}

// normal makes a path normal from the current folder.
func (d *desk) normal(path string) (string, api.Outcome) {
	s, e := files.Normal(d.folder, path)
	return s, fileError(e, path)
}

func isMode(s string) bool {
	switch s {
	case "r", "r+", "w", "w+", "a", "a+":
		return true
	}
	return false
}

func doOpen(x *core.Machine, words []string) api.Outcome {
	mode := "r"
	if len(words) == 3 {
		mode = words[2]
	}
	if !isMode(mode) {
		return core.Fail("option", mode)
	}
	d := deskOf(x)
	path, o := d.normal(words[1])
	if core.Bad(o) {
		return o
	}
	h, e := d.store.Open(path, mode)
	if e != api.OK {
		return fileError(e, words[1])
	}
	both := strings.HasSuffix(mode, "+")
	return core.Done(d.add("file", &document{Pipe: newPipe("full"), store: d.store, handle: h, in: both || mode == "r", out: both || mode != "r"}))
}

func doCd(x *core.Machine, words []string) api.Outcome {
	d := deskOf(x)
	if len(words) == 1 {
		d.folder = "/"
		return api.Outcome{}
	}
	path, o := d.normal(words[1])
	if core.Bad(o) {
		return o
	}
	if kind, e := d.store.Kind(path); e != api.OK || kind != 2 {
		return core.Fail("file", words[1])
	}
	d.folder = path
	return api.Outcome{}
}

func doFiles(x *core.Machine, words []string) api.Outcome {
	d := deskOf(x)
	return d.listed(d.folder, d.folder, words[1])
}

func (d *desk) listed(path, word, pattern string) api.Outcome {
	l, e := d.store.List(path, pattern)
	if e != api.OK {
		return fileError(e, word)
	}
	var out []string
	for _, entry := range l {
		out = append(out, entry.Name)
	}
	return core.Join(out)
}

// filer is what the sub words of file are asked of: the machine's files, and the first path, made normal.
type filer struct {
	core.Asker
	*desk
	path string
}

func withFiles(x *core.Machine, words []string) filer {
	return filer{core.Ask(x, words), deskOf(x), ""}
}

func fileSubs() map[string]core.Sub[filer] {
	sub := func(least, most int, do func(filer) api.Outcome) core.Sub[filer] {
		return core.Sub[filer]{Least: least, Most: most, Do: do}
	}
	// those that look at the store ask for the form of their path first
	at := func(do func(filer) api.Outcome) func(filer) api.Outcome {
		return func(f filer) api.Outcome {
			path, o := f.normal(f.Arg(0))
			if core.Bad(o) {
				return o
			}
			f.path = path
			return do(f)
		}
	}
	text := func(of func(string) string) core.Sub[filer] {
		return sub(1, 1, func(f filer) api.Outcome { return core.Done(of(f.Arg(0))) })
	}
	return map[string]core.Sub[filer]{
		"exists":   sub(1, 1, at(func(f filer) api.Outcome { return core.Truth(f.kind() != 0) })),
		"isfile":   sub(1, 1, at(func(f filer) api.Outcome { return core.Truth(f.kind() == 1) })),
		"isfolder": sub(1, 1, at(func(f filer) api.Outcome { return core.Truth(f.kind() == 2) })),
		"size":     sub(1, 1, at(filer.size)),
		"delete":   sub(0, -1, filer.remove),
		"mkdir":    sub(0, -1, filer.make),
		"rename":   sub(2, 2, at(filer.rename)),
		"copy":     sub(2, 2, at(filer.copy)),
		"join":     sub(0, -1, filer.join),
		"split":    sub(1, 1, func(f filer) api.Outcome { return core.Join(files.Parts(f.Arg(0))) }),
		"name":     text(files.Name),
		"parent":   text(files.Parent),
		"ending":   text(files.Ending),
		"normal":   sub(1, 1, at(func(f filer) api.Outcome { return core.Done(f.path) })),
		"list":     sub(1, 1, at(func(f filer) api.Outcome { return f.listed(f.path, f.Arg(0), "*") })),
		"get":      sub(1, 1, at(filer.get)),
		"put":      sub(2, 2, at(func(f filer) api.Outcome { return fileError(f.store.Put(f.path, f.Arg(1)), f.Arg(0)) })),
	}
}

func (f filer) kind() int {
	kind, _ := f.store.Kind(f.path)
	return kind
}

func (f filer) get() api.Outcome {
	s, e := f.store.Get(f.path)
	if e != api.OK {
		return fileError(e, f.Arg(0))
	}
	return core.Done(s)
}

func (f filer) size() api.Outcome {
	s, e := f.store.Get(f.path)
	if e != api.OK {
		return fileError(e, f.Arg(0))
	}
	return core.Done(strconv.Itoa(len(s)))
}

// each does something with all paths, one after the other.
func (f filer) each(do func(path string) api.Errno) api.Outcome {
	for _, word := range f.Args() {
		path, o := f.normal(word)
		if core.Bad(o) {
			return o
		}
		if o := fileError(do(path), word); core.Bad(o) {
			return o
		}
	}
	return api.Outcome{}
}

func (f filer) remove() api.Outcome {
	return f.each(func(path string) api.Errno {
		e := f.store.Delete(path, true)
		if e == api.ErrNone {
			e = api.OK
		}
		return e
	})
}

func (f filer) make() api.Outcome { return f.each(f.store.Make) }

// both does something with two paths; an error is told of the first one if that is not there.
func (f filer) both(do func(from, to string) api.Errno) api.Outcome {
	to, o := f.normal(f.Arg(1))
	if core.Bad(o) {
		return o
	}
	about := f.Arg(1)
	if f.kind() == 0 {
		about = f.Arg(0)
	}
	return fileError(do(f.path, to), about)
}

func (f filer) rename() api.Outcome { return f.both(f.store.Rename) }

func (f filer) copy() api.Outcome { return f.both(f.store.Copy) }

func (f filer) join() api.Outcome {
	out := ""
	for _, p := range f.Args() {
		switch {
		case strings.HasPrefix(p, "/") || out == "":
			out = p
		case strings.HasSuffix(out, "/"):
			out += p
		default:
			out += "/" + p
		}
	}
	return core.Done(out)
}
