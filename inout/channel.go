package inout

import (
	"threadbare/api"
	"threadbare/core"
	"threadbare/files"
	"threadbare/pipe"
)

// channel is what gives and takes bytes.
type channel interface {
	reads() bool
	writes() bool
	line() (s string, there bool, o api.Outcome)
	read(n int) (string, api.Outcome)
	write(s string) api.Outcome
	flush() api.Outcome
	close() api.Outcome
	ended() bool
	blocked() bool
	options() *pipe.Pipe
}

// full is the error of what takes no more.
func full() api.Outcome { return core.Problem("file: long") }

// stream is a pipe: one of the three that are always there, or a side of a pair.
type stream struct {
	*pipe.Pipe
	name    string
	in, out bool
	paired  bool
	other   *stream
}

func newPipe(buffering string) *pipe.Pipe {
	p, _ := pipe.New("auto", "lf", buffering, 4096)
	return p
}

func (s *stream) reads() bool         { return s.in }
func (s *stream) writes() bool        { return s.out }
func (s *stream) ended() bool         { return s.Eof() }
func (s *stream) blocked() bool       { return s.Blocked() }
func (s *stream) options() *pipe.Pipe { return s.Pipe }

func (s *stream) line() (string, bool, api.Outcome) {
	l, there, _ := s.Line()
	return l, there, api.Outcome{}
}

func (s *stream) read(n int) (string, api.Outcome) {
	got, _ := s.Read(n)
	return got, api.Outcome{}
}

// move lets what has left come into the other side, if that is there.
func (s *stream) move() {
	if !s.paired {
		return
	}
	left := s.Out()
	if s.other != nil && left != "" {
		s.other.Feed(left)
	}
}

func (s *stream) write(text string) api.Outcome {
	if s.Write(text) != api.OK {
		return full()
	}
	s.move()
	return api.Outcome{}
}

func (s *stream) flush() api.Outcome {
	s.Flush()
	s.move()
	if s.other != nil && s.other.Broken() {
		return core.Fail("broken", s.name)
	}
	return api.Outcome{}
}

func (s *stream) close() api.Outcome {
	o := s.flush()
	if s.other != nil {
		s.other.Close()
		s.other.other = nil
	}
	return o
}

// document is an open file; its pipe has its options, and what is written and not yet flushed.
type document struct {
	*pipe.Pipe
	store   *files.Store
	handle  int
	in, out bool
	end     bool
}

func (d *document) reads() bool         { return d.in }
func (d *document) writes() bool        { return d.out }
func (d *document) ended() bool         { return d.end }
func (d *document) blocked() bool       { return false }
func (d *document) options() *pipe.Pipe { return d.Pipe }

// settle writes what has left the buffer into the file.
func (d *document) settle() api.Outcome {
	left := d.Out()
	if left == "" {
		return api.Outcome{}
	}
	if d.store.Write(d.handle, left) != api.OK || d.store.Flush(d.handle) != api.OK {
		return full()
	}
	return api.Outcome{}
}

func (d *document) write(text string) api.Outcome {
	if d.Write(text) != api.OK {
		return full()
	}
	return d.settle()
}

func (d *document) flush() api.Outcome {
	d.Flush()
	return d.settle()
}

func (d *document) close() api.Outcome {
	o := d.flush()
	if d.store.CloseFile(d.handle) != api.OK {
		return full()
	}
	return o
}

// some asks a closed pipe for some of the file's bytes from its place on; it is asked again for more, if it tells false.
func (d *document) some(size int, ask func(p *pipe.Pipe, all bool) bool) api.Outcome {
	if o := d.flush(); core.Bad(o) {
		return o
	}
	place, _ := d.store.Tell(d.handle)
	mode, _ := d.Get("in")
	for {
		data, _ := d.store.Read(d.handle, size)
		p, _ := pipe.New(mode, "lf", "none", 1)
		p.Feed(data)
		all := len(data) < size
		if all {
			p.Close()
		}
		done := ask(p, all)
		taken := len(data) - p.Waiting()
		if !done {
			taken = 0
		}
		d.store.Seek(d.handle, place+taken, "start")
		if done {
			d.end = p.Eof()
			return api.Outcome{}
		}
		size *= 4
	}
}

func (d *document) line() (s string, there bool, o api.Outcome) {
	o = d.some(4096, func(p *pipe.Pipe, all bool) bool {
		if !all && !p.Ready() {
			return false
		}
		s, there, _ = p.Line()
		return true
	})
	return s, there, o
}

func (d *document) read(n int) (s string, o api.Outcome) {
	// a byte that is read takes two of the file at the most, and one behind tells whether there are more
	o = d.some(2*n+2, func(p *pipe.Pipe, _ bool) bool {
		s, _ = p.Read(n)
		return true
	})
	return s, o
}
