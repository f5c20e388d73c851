package disk

import (
	"iter"
	"slices"
	"strings"

	"covey/api"
	"covey/bits"
	"covey/files"
	"covey/meta"
)

const (
	mostFolder = 60
	mostCache  = 100
)

// partial are the blocks of a piece in memory, and when the last one came.
type partial struct {
	blocks map[int]string
	last   int
}

// Store keeps content on a disk.
type Store struct {
	*drive
	disk *Disk
	meta api.Meta
	// old is the old half, where there is one.
	old     api.Meta
	new     bool
	sizes   []int
	cache   int
	folder  string
	folders []string
	target  string
	moving  bool
	had     []bool
	memory  map[int]*partial
	clock   int
}

// clone copies a metainfo.
func clone(m api.Meta) api.Meta {
	deep := func(l [][]string) [][]string {
		var out [][]string
		for _, x := range l {
			out = append(out, slices.Clone(x))
		}
		return out
	}
	m.Layers, m.Trackers, m.Webs = deep(m.Layers), deep(m.Trackers), slices.Clone(m.Webs)
	i := &m.Info
	i.Files, i.Pieces, i.Roots = slices.Clone(i.Files), slices.Clone(i.Pieces), slices.Clone(i.Roots)
	for k := range i.Files {
		i.Files[k].Path = slices.Clone(i.Files[k].Path)
	}
	return m
}

// pathIn is the path of a file in a folder.
func pathIn(folder, name string, f api.File) string { return join(folder, name, join(f.Path...)) }

// askFolder asks a folder, and that no path in it is too long.
func askFolder(m api.Meta, folder string) {
	refuse(!validPath(folder, mostFolder), api.ErrInvalid)
	for _, f := range m.Info.Files {
		refuse(!f.Pad && !validPath(pathIn(folder, m.Info.Name, f), mostPath), api.ErrInvalid)
	}
}

// Open opens a store without any claim.
func Open(d *Disk, m api.Meta, folder string, whole bool, cache int) (*Store, api.Errno) {
	return attempt(func() *Store {
		d.ask()
		refuse(!meta.ValidMeta(m), api.ErrInvalid)
		askFolder(m, folder)
		refuse(cache < 1 || cache > mostCache, api.ErrRange)
		s := &Store{drive: &d.drive, disk: d, meta: clone(m), new: m.Info.Version != api.VOld, cache: cache, folder: folder, memory: map[int]*partial{}}
		s.folders = slices.Repeat([]string{folder}, len(m.Info.Files))
		if meta.Old(m.Info) {
			s.old = must(meta.Half(m, false))
		}
		s.had = make([]bool, must(meta.Count(m.Info, s.new)))
		for i := range s.had {
			s.sizes = append(s.sizes, must(files.Size(m.Info.Files, m.Info.Piece, s.new, i)))
		}
		s.lay(whole)
		return s
	})
}

// lay lays files out: all of them in their lengths, or the empty ones.
func (s *Store) lay(whole bool) {
	for k, f := range s.meta.Info.Files {
		if f.Pad || !whole && f.Length > 0 {
			continue
		}
		path := s.path(k)
		there := s.length(path)
		if there < 0 {
			s.write(path, 0, "")
		}
		if whole && s.length(path) != f.Length {
			s.cut(path, f.Length)
		}
		if whole || there < 0 {
			s.flush(path)
		}
	}
}

// path is where a file lies now.
func (s *Store) path(k int) string {
	return pathIn(s.folders[k], s.meta.Info.Name, s.meta.Info.Files[k])
}

func (s *Store) ask() { refuse(s == nil || s.drive == nil, api.ErrInvalid) }

func (s *Store) askPiece(i int) { refuse(i < 0 || i >= len(s.had), api.ErrRange) }

func (s *Store) size(i int) int { return s.sizes[i] }

// askBlock asks a block of a piece.
func (s *Store) askBlock(c api.Choice) {
	s.ask()
	s.askPiece(c.Piece)
	n := s.size(c.Piece)
	refuse(c.Begin < 0 || c.Begin >= n || c.Begin%api.Block != 0 || c.Length != min(api.Block, n-c.Begin), api.ErrInvalid)
}

// spans yields the parts of files that a piece has.
func (s *Store) spans(i int) iter.Seq[api.Span] {
	return func(yield func(api.Span) bool) {
		for _, x := range must(files.Spans(s.meta.Info.Files, s.meta.Info.Piece, s.new, i)) {
			if !yield(x) {
				return
			}
		}
	}
}

// single is a metainfo of one piece alone, which proves just what the new half proves; false if there is none. It saves asking the whole metainfo for each piece.
func (s *Store) single(i int) (api.Meta, bool) {
	info := s.meta.Info
	span := must(files.Spans(info.Files, info.Piece, true, i))[0]
	nth := 0
	for _, f := range info.Files[:span.File] {
		if !f.Pad {
			nth++
		}
	}
	proof := info.Roots[nth]
	if info.Files[span.File].Length > info.Piece {
		if span.Count < info.Piece {
			// Its node stands over pads, too: no file of its length has that root.
			return api.Meta{}, false
		}
		proof = s.meta.Layers[nth][span.From/info.Piece]
	}
	one := api.Info{Name: "piece", Version: api.VNew, Piece: info.Piece, Files: []api.File{{Path: []string{"piece"}, Length: span.Count}}, Roots: []string{proof}}
	return api.Meta{Info: one, Layers: [][]string{nil}}, true
}

// right reports whether data are those of a piece by one half.
func right(m api.Meta, new bool, i int, data string) bool {
	ok, e := meta.Check(m, new, i, data)
	return ok && e == api.OK
}

// proved reports whether data are those of a piece, by all halves that there are.
func (s *Store) proved(i int, data string) bool {
	if s.new {
		one, alone := s.single(i)
		if alone && !right(one, true, 0, data) || !alone && !right(s.meta, true, i, data) {
			return false
		}
	}
	if s.meta.Info.Version == api.VNew {
		return true
	}
	n := must(meta.Size(s.old.Info, false, i))
	return right(s.old, false, i, data+strings.Repeat("\x00", max(0, n-len(data))))
}

// save writes a piece to its files, and flushes them.
func (s *Store) save(i int, data string) {
	var written []string
	defer func() {
		for _, path := range written {
			s.flush(path)
		}
	}()
	for x := range s.spans(i) {
		if !s.meta.Info.Files[x.File].Pad {
			path := s.path(x.File)
			s.write(path, x.From, data[:x.Count])
			written = append(written, path)
		}
		data = data[x.Count:]
	}
}

// load reads a piece from its files; false if any of it lacks.
func (s *Store) load(i int) (string, bool) {
	var b strings.Builder
	for x := range s.spans(i) {
		if s.meta.Info.Files[x.File].Pad {
			b.WriteString(strings.Repeat("\x00", x.Count))
			continue
		}
		path := s.path(x.File)
		if s.length(path) < x.From+x.Count {
			return "", false
		}
		b.WriteString(s.read(path, x.From, x.Count))
	}
	return b.String(), true
}

// onDisk reports whether the disk proves a piece.
func (s *Store) onDisk(i int) bool {
	data, ok := s.load(i)
	return ok && s.proved(i, data)
}

// remember makes room in memory for the blocks of a piece.
func (s *Store) remember(i int) *partial {
	if p := s.memory[i]; p != nil {
		return p
	}
	if len(s.memory) >= s.cache {
		oldest := -1
		for k, p := range s.memory {
			if oldest < 0 || p.last < s.memory[oldest].last {
				oldest = k
			}
		}
		delete(s.memory, oldest)
	}
	p := &partial{blocks: map[int]string{}}
	s.memory[i] = p
	return p
}

// whole returns all blocks of a piece, one behind the other; false if one lacks.
func (s *Store) whole(i int, p *partial) (string, bool) {
	var b strings.Builder
	for begin := 0; begin < s.size(i); begin += api.Block {
		x, ok := p.blocks[begin]
		if !ok {
			return "", false
		}
		b.WriteString(x)
	}
	return b.String(), true
}

// decide takes a piece that is whole, if it is proved; its blocks leave memory.
func (s *Store) decide(i int, data string) {
	right := s.proved(i, data)
	delete(s.memory, i)
	refuse(!right, api.ErrProof)
	s.save(i, data)
	s.had[i] = true
}

// Block takes a block; whole tells that its piece became had.
func (s *Store) Block(c api.Choice, data string) (whole bool, e api.Errno) {
	return attempt(func() bool {
		s.askBlock(c)
		refuse(len(data) != c.Length, api.ErrSize)
		refuse(s.had[c.Piece], api.ErrState)
		if p := s.memory[c.Piece]; p != nil {
			_, there := p.blocks[c.Begin]
			refuse(there, api.ErrDuplicate)
		}
		p := s.remember(c.Piece)
		s.clock++
		p.last = s.clock
		p.blocks[c.Begin] = data
		all, ok := s.whole(c.Piece, p)
		if ok {
			s.decide(c.Piece, all)
		}
		return ok
	})
}

// Put takes a whole piece.
func (s *Store) Put(i int, data string) api.Errno {
	return do(func() {
		s.ask()
		s.askPiece(i)
		refuse(len(data) != s.size(i), api.ErrSize)
		refuse(s.had[i], api.ErrState)
		refuse(!s.proved(i, data), api.ErrProof)
		s.decide(i, data)
	})
}

// Read returns a block of a piece that is had.
func (s *Store) Read(c api.Choice) (string, api.Errno) {
	return attempt(func() string {
		s.askBlock(c)
		refuse(!s.had[c.Piece], api.ErrState)
		data, ok := s.load(c.Piece)
		if !ok || !s.proved(c.Piece, data) {
			s.had[c.Piece] = false
			panic(api.ErrData)
		}
		return data[c.Begin : c.Begin+c.Length]
	})
}

// Had is the field of what is had.
func (s *Store) Had() string {
	if s == nil {
		return ""
	}
	var l []int
	for i, had := range s.had {
		if had {
			l = append(l, i)
		}
	}
	f, _ := bits.Of(len(s.had), l)
	return f
}

// Has tells whether a piece is had.
func (s *Store) Has(i int) (bool, api.Errno) {
	return attempt(func() bool {
		s.ask()
		s.askPiece(i)
		return s.had[i]
	})
}

// Partial returns the blocks of a piece in memory.
func (s *Store) Partial(i int) ([]api.Choice, api.Errno) {
	return attempt(func() []api.Choice {
		s.ask()
		s.askPiece(i)
		var out []api.Choice
		p := s.memory[i]
		for begin := 0; p != nil && begin < s.size(i); begin += api.Block {
			if x, ok := p.blocks[begin]; ok {
				out = append(out, api.Choice{Piece: i, Begin: begin, Length: len(x)})
			}
		}
		return out
	})
}

// Forget takes a piece from what is had, and its blocks from memory.
func (s *Store) Forget(i int) api.Errno {
	return do(func() {
		s.ask()
		s.askPiece(i)
		s.had[i] = false
		delete(s.memory, i)
	})
}

// Pieces returns how many pieces there are.
func (s *Store) Pieces() int {
	if s == nil {
		return 0
	}
	return len(s.had)
}

// Size returns the length of a piece.
func (s *Store) Size(i int) (int, api.Errno) {
	return attempt(func() int {
		s.ask()
		s.askPiece(i)
		return s.size(i)
	})
}

// Disk returns the store's disk.
func (s *Store) Disk() *Disk {
	if s == nil {
		return nil
	}
	return s.disk
}
