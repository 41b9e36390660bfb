package files

import (
	"strings"

	"threadbare/api"
)

const maxHandles = 50

// mode says what may be done with an open file.
type mode struct{ reads, writes, makes, empties, atEnd bool }

func modes() map[string]mode {
	return map[string]mode{
		"r":  {reads: true},
		"r+": {reads: true, writes: true},
		"w":  {writes: true, makes: true, empties: true},
		"w+": {reads: true, writes: true, makes: true, empties: true},
		"a":  {writes: true, makes: true, atEnd: true},
		"a+": {reads: true, writes: true, makes: true, atEnd: true},
	}
}

// piece is what was written at a place, and is pending.
type piece struct {
	at    int
	bytes string
}

// handle is an open file with a place.
type handle struct {
	*file
	mode
	place   int
	pending []piece
}

// Open opens a file.
func (s *Store) Open(path, name string) (int, api.Errno) {
	parts, long, e := s.given(path)
	if e != api.OK {
		return 0, e
	}
	m, ok := modes()[name]
	if !ok {
		return 0, api.ErrName
	}
	in, e := s.way(parts)
	if e != api.OK {
		return 0, e
	}
	there := s.find(parts)
	f, isFile := there.(*file)
	switch {
	case there != nil && !isFile:
		return 0, api.ErrKind
	case !isFile && !m.makes:
		return 0, api.ErrNone
	case !isFile && long:
		return 0, api.ErrLong
	case !isFile && s.count == api.MaxFiles, len(s.handles) == maxHandles:
		return 0, api.ErrLimit
	case !isFile:
		f = &file{}
		in.nodes[parts[len(parts)-1]] = f
		s.count++
	case m.empties:
		s.write(f, "")
	}
	s.last++
	s.handles[s.last] = &handle{file: f, mode: m}
	return s.last, api.OK
}

func (s *Store) handle(h int) (*handle, api.Errno) {
	if s == nil {
		return nil, api.ErrInvalid
	}
	open, ok := s.handles[h]
	if !ok {
		return nil, api.ErrState
	}
	return open, api.OK
}

// after returns the length that the file has with all that is pending.
func (h *handle) after() int {
	n := len(h.bytes)
	for _, p := range h.pending {
		if h.atEnd {
			n += len(p.bytes)
		} else {
			n = max(n, p.at+len(p.bytes))
		}
	}
	return n
}

// Write writes: the bytes are pending until they are flushed.
func (s *Store) Write(h int, bytes string) api.Errno {
	open, e := s.handle(h)
	switch {
	case e != api.OK:
		return e
	case !open.writes:
		return api.ErrState
	case bytes == "":
		return api.OK
	}
	at := open.place
	if open.atEnd && len(open.pending) == 0 {
		at = len(open.bytes)
	}
	open.pending = append(open.pending, piece{at, strings.Clone(bytes)})
	if open.after() > api.MaxBytes {
		open.pending = open.pending[:len(open.pending)-1]
		return api.ErrLimit
	}
	open.place = at + len(bytes)
	return api.OK
}

// flush lets what is pending be in the file.
func (s *Store) flush(h *handle) api.Errno {
	if len(h.pending) == 0 {
		return api.OK
	}
	n := h.after()
	list := h.pending
	h.pending = nil
	if !h.gone && s.total-len(h.bytes)+n > api.MaxBytes {
		if h.atEnd {
			h.place = len(h.bytes)
		}
		return api.ErrLimit
	}
	out := make([]byte, n)
	end := copy(out, h.bytes)
	for _, p := range list {
		at := p.at
		if h.atEnd {
			at = end
		}
		end = max(end, at+copy(out[at:], p.bytes))
	}
	s.write(h.file, string(out))
	if h.atEnd {
		h.place = n
	}
	return api.OK
}

// Read returns at most n bytes from the place.
func (s *Store) Read(h, n int) (string, api.Errno) {
	open, e := s.handle(h)
	if e != api.OK {
		return "", e
	}
	if !open.reads {
		return "", api.ErrState
	}
	if e := s.flush(open); e != api.OK {
		return "", e
	}
	from := min(open.place, len(open.bytes))
	to := len(open.bytes)
	if n >= 0 && n < to-from {
		to = from + n
	}
	open.place += to - from
	return open.bytes[from:to], api.OK
}

// Seek goes to a place.
func (s *Store) Seek(h, n int, from string) (int, api.Errno) {
	open, e := s.handle(h)
	if e != api.OK {
		return 0, e
	}
	if from != "start" && from != "here" && from != "end" {
		return 0, api.ErrName
	}
	if e := s.flush(open); e != api.OK {
		return 0, e
	}
	base := map[string]int{"start": 0, "here": open.place, "end": len(open.bytes)}[from]
	// differences: the sum of far places might not fit
	if n < -base || n > api.MaxBytes-base {
		return 0, api.ErrRange
	}
	open.place = base + n
	return open.place, api.OK
}

// Tell returns the place.
func (s *Store) Tell(h int) (int, api.Errno) {
	open, e := s.handle(h)
	if e != api.OK {
		return 0, e
	}
	return open.place, api.OK
}

// Flush lets what is pending be in the file.
func (s *Store) Flush(h int) api.Errno {
	open, e := s.handle(h)
	if e != api.OK {
		return e
	}
	return s.flush(open)
}

// CloseFile flushes, and the handle is gone.
func (s *Store) CloseFile(h int) api.Errno {
	open, e := s.handle(h)
	if e != api.OK {
		return e
	}
	delete(s.handles, h)
	return s.flush(open)
}
