package files

import (
	"iter"
	"slices"
	"strconv"
	"strings"

	"threadbare/api"
	"threadbare/text"
)

// node is a file or a folder.
type node interface{ kind() int }

// file has bytes; one that is gone lives on for its handles alone.
type file struct {
	bytes string
	gone  bool
}

type folder struct{ nodes map[string]node }

func (*file) kind() int   { return 1 }
func (*folder) kind() int { return 2 }

func newFolder() *folder { return &folder{nodes: map[string]node{}} }

// Store has folders and files, and handles of open files.
type Store struct {
	root    *folder
	count   int
	total   int
	handles map[int]*handle
	last    int
}

// NewStore returns a store with the folder / alone.
func NewStore() *Store { return &Store{root: newFolder(), handles: map[int]*handle{}} }

// given makes a path normal that a store is given; long tells whether it is too long to be there.
func (s *Store) given(path string) (parts []string, long bool, e api.Errno) {
	if s == nil || !absolute(path) {
		return nil, false, api.ErrInvalid
	}
	parts, e = normal("/", path)
	if e == api.ErrLong {
		return parts, true, api.OK
	}
	return parts, false, e
}

// find returns what is there, or nil.
func (s *Store) find(parts []string) node {
	var at node = s.root
	for _, part := range parts {
		f, ok := at.(*folder)
		if !ok || f.nodes[part] == nil {
			return nil
		}
		at = f.nodes[part]
	}
	return at
}

// way returns the folder of a path: the first part that is a file, or not there, decides.
func (s *Store) way(parts []string) (*folder, api.Errno) {
	at := s.root
	for _, part := range parts[:max(len(parts)-1, 0)] {
		switch next := at.nodes[part].(type) {
		case *folder:
			at = next
		case *file:
			return nil, api.ErrKind
		default:
			return nil, api.ErrNone
		}
	}
	return at, api.OK
}

// Make makes a folder, with those above it.
func (s *Store) Make(path string) api.Errno {
	parts, long, e := s.given(path)
	if e != api.OK {
		return e
	}
	if long {
		return api.ErrLong
	}
	at, missing := s.root, 0
	for i, part := range parts {
		next := at.nodes[part]
		if next == nil {
			missing = len(parts) - i
			break
		}
		f, ok := next.(*folder)
		if !ok {
			return api.ErrKind
		}
		at = f
	}
	if s.count+missing > api.MaxFiles {
		return api.ErrLimit
	}
	for _, part := range parts[len(parts)-missing:] {
		f := newFolder()
		at.nodes[part] = f
		at = f
	}
	s.count += missing
	return api.OK
}

// Put makes a file with bytes, or replaces them.
func (s *Store) Put(path, bytes string) api.Errno {
	parts, long, e := s.given(path)
	if e != api.OK {
		return e
	}
	if long {
		return api.ErrLong
	}
	in, e := s.way(parts)
	if e != api.OK {
		return e
	}
	was, isFile := s.find(parts).(*file)
	if s.find(parts) != nil && !isFile {
		return api.ErrKind
	}
	if !isFile {
		was = &file{}
	}
	if !isFile && s.count == api.MaxFiles || s.total-len(was.bytes)+len(bytes) > api.MaxBytes {
		return api.ErrLimit
	}
	if !isFile {
		in.nodes[parts[len(parts)-1]] = was
		s.count++
	}
	s.write(was, strings.Clone(bytes))
	return api.OK
}

// write gives a file other bytes.
func (s *Store) write(f *file, bytes string) {
	if !f.gone {
		s.total += len(bytes) - len(f.bytes)
	}
	f.bytes = bytes
}

// Get returns a file's bytes.
func (s *Store) Get(path string) (string, api.Errno) {
	parts, _, e := s.given(path)
	if e != api.OK {
		return "", e
	}
	switch n := s.find(parts).(type) {
	case *file:
		return n.bytes, api.OK
	case *folder:
		return "", api.ErrKind
	}
	return "", api.ErrNone
}

// Kind returns 1 for a file, 2 for a folder.
func (s *Store) Kind(path string) (int, api.Errno) {
	parts, _, e := s.given(path)
	if e != api.OK {
		return 0, e
	}
	n := s.find(parts)
	if n == nil {
		return 0, api.ErrNone
	}
	return n.kind(), api.OK
}

// drop takes away what is at a path, with all that is in it.
func (s *Store) drop(parts []string) {
	in, _ := s.way(parts)
	name := parts[len(parts)-1]
	for _, n := range below("", in.nodes[name]) {
		if f, ok := n.(*file); ok {
			s.total -= len(f.bytes)
			f.gone = true
		}
		s.count--
	}
	delete(in.nodes, name)
}

// below yields a node and all that is in it, by paths; folders before what is in them, names ascending.
func below(path string, n node) iter.Seq2[string, node] {
	return func(yield func(string, node) bool) {
		if !yield(path, n) {
			return
		}
		f, ok := n.(*folder)
		if !ok {
			return
		}
		for _, name := range f.names() {
			for p, inner := range below(path+"/"+name, f.nodes[name]) {
				if !yield(p, inner) {
					return
				}
			}
		}
	}
}

func (f *folder) names() []string {
	var out []string
	for name := range f.nodes {
		out = append(out, name)
	}
	slices.Sort(out)
	return out
}

// Delete takes a file or a folder away.
func (s *Store) Delete(path string, all bool) api.Errno {
	parts, _, e := s.given(path)
	if e != api.OK {
		return e
	}
	n := s.find(parts)
	if n == nil {
		return api.ErrNone
	}
	f, ok := n.(*folder)
	if len(parts) == 0 || ok && !all && len(f.nodes) > 0 {
		return api.ErrState
	}
	s.drop(parts)
	return api.OK
}

// Rename gives a file or folder another path.
func (s *Store) Rename(from, to string) api.Errno {
	a, _, e := s.given(from)
	b, long, e2 := s.given(to)
	if e != api.OK || e2 != api.OK {
		return api.ErrInvalid
	}
	n := s.find(a)
	if n == nil {
		return api.ErrNone
	}
	in, e := s.way(b)
	if e != api.OK {
		return e
	}
	if len(a) > 0 && slices.Equal(a, b) {
		return api.OK
	}
	there := s.find(b)
	isBelow := len(b) >= len(a) && slices.Equal(a, b[:len(a)])
	if isBelow || len(b) == 0 || !replaceable(there, n) {
		return api.ErrState
	}
	if long || tooLong(joined(b), n) {
		return api.ErrLong
	}
	if there != nil {
		s.drop(b)
	}
	old, _ := s.way(a)
	delete(old.nodes, a[len(a)-1])
	in.nodes[b[len(b)-1]] = n
	return api.OK
}

// replaceable reports whether a node may take the place of what is there.
func replaceable(there, n node) bool {
	switch t := there.(type) {
	case nil:
		return true
	case *folder:
		return len(t.nodes) == 0 && n.kind() == 2
	}
	return n.kind() == 1
}

func tooLong(path string, n node) bool {
	for p := range below(path, n) {
		if len(p) > maxPath {
			return true
		}
	}
	return false
}

// Copy copies a file.
func (s *Store) Copy(from, to string) api.Errno {
	a, _, e := s.given(from)
	b, long, e2 := s.given(to)
	if e != api.OK || e2 != api.OK {
		return api.ErrInvalid
	}
	n := s.find(a)
	if n == nil {
		return api.ErrNone
	}
	f, ok := n.(*file)
	if !ok {
		return api.ErrKind
	}
	in, e := s.way(b)
	if e != api.OK {
		return e
	}
	if slices.Equal(a, b) {
		return api.OK
	}
	there := s.find(b)
	old, isFile := there.(*file)
	switch {
	case there != nil && !isFile:
		return api.ErrState
	case long:
		return api.ErrLong
	case isFile && s.total-len(old.bytes)+len(f.bytes) > api.MaxBytes, !isFile && (s.count == api.MaxFiles || s.total+len(f.bytes) > api.MaxBytes):
		return api.ErrLimit
	case isFile:
		s.drop(b)
	}
	in.nodes[b[len(b)-1]] = &file{bytes: f.bytes}
	s.count++
	s.total += len(f.bytes)
	return api.OK
}

// List returns the entries of a folder whose names a pattern matches.
func (s *Store) List(path, pattern string) ([]api.Entry, api.Errno) {
	parts, _, e := s.given(path)
	if e != api.OK {
		return nil, e
	}
	n := s.find(parts)
	if n == nil {
		return nil, api.ErrNone
	}
	f, ok := n.(*folder)
	if !ok {
		return nil, api.ErrKind
	}
	var out []api.Entry
	for _, name := range f.names() {
		if !text.Glob(pattern, name, false) {
			continue
		}
		entry := api.Entry{Name: name, Folder: true}
		if inner, ok := f.nodes[name].(*file); ok {
			entry.Folder, entry.Size = false, len(inner.bytes)
		}
		out = append(out, entry)
	}
	return out, api.OK
}

// Glob returns all paths whose parts match those of a pattern.
func (s *Store) Glob(pattern string) ([]string, api.Errno) {
	if s == nil || !isPath(pattern) || !absolute(pattern) {
		return nil, api.ErrInvalid
	}
	globs := Parts(pattern)
	var out []string
	for _, path := range s.All() {
		parts := Parts(path)
		fits := len(parts) == len(globs)
		for i := 0; fits && i < len(parts); i++ {
			fits = text.Glob(globs[i], parts[i], false)
		}
		if fits {
			out = append(out, path)
		}
	}
	return out, api.OK
}

// All returns all paths but /.
func (s *Store) All() []string {
	if s == nil {
		return nil
	}
	var out []string
	for path := range below("", s.root) {
		if path != "" {
			out = append(out, path)
		}
	}
	slices.Sort(out)
	return out
}

// Bytes returns the bytes of all files.
func (s *Store) Bytes() int {
	if s == nil {
		return 0
	}
	return s.total
}

// Crash closes all handles without flushing.
func (s *Store) Crash() {
	if s != nil {
		clear(s.handles)
	}
}

// Twin returns an independent store with the same folders and files.
func (s *Store) Twin() *Store {
	if s == nil {
		return nil
	}
	twin := NewStore()
	for _, path := range s.All() {
		parts := Parts(path)
		in, _ := twin.way(parts)
		switch n := s.find(parts).(type) {
		case *file:
			in.nodes[parts[len(parts)-1]] = &file{bytes: n.bytes}
		case *folder:
			in.nodes[parts[len(parts)-1]] = newFolder()
		}
	}
	twin.count, twin.total = s.count, s.total
	return twin
}

// Show returns a line for each path.
func (s *Store) Show() string {
	var out strings.Builder
	for _, path := range s.All() {
		out.WriteString(path)
		if f, ok := s.find(Parts(path)).(*file); ok {
			out.WriteString(" " + strconv.Itoa(len(f.bytes)) + " " + strconv.FormatUint(hash(f.bytes), 10) + "\n")
		} else {
			out.WriteString("/\n")
		}
	}
	return out.String()
}

func hash(s string) uint64 {
	sum := uint64(14695981039346656037)
	for i := range len(s) {
		sum = (sum ^ uint64(s[i])) * 1099511628211
	}
	return sum
}
