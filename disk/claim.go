package disk

import (
	"slices"

	"covey/api"
	"covey/benc"
	"covey/bits"
	"covey/meta"
)

// prove has just the pieces that may be had and that the disk proves; it returns how many.
func (s *Store) prove(may func(i int) bool) int {
	clear(s.memory)
	n := 0
	for i := range s.had {
		s.had[i] = may(i) && s.onDisk(i)
		if s.had[i] {
			n++
		}
	}
	return n
}

// Check reads all pieces from the disk.
func (s *Store) Check() (int, api.Errno) {
	return attempt(func() int {
		s.ask()
		return s.prove(func(int) bool { return true })
	})
}

// proper yields the numbers of the files that are no pads.
func (s *Store) proper() []int {
	var out []int
	for k, f := range s.meta.Info.Files {
		if !f.Pad {
			out = append(out, k)
		}
	}
	return out
}

// name is the short name of the content.
func (s *Store) name() string {
	_, _, short, e := meta.Names(s.meta.Info)
	refuse(e != api.OK, e)
	return short
}

// Claim writes a claim.
func (s *Store) Claim() (string, api.Errno) {
	return attempt(func() string {
		s.ask()
		sizes := api.Value{Kind: api.BList}
		for _, k := range s.proper() {
			sizes.Kids = append(sizes.Kids, benc.Int(s.length(s.path(k))))
		}
		d := must(benc.Dict([]string{"have", "name", "sizes"}, []api.Value{benc.Text(s.Had()), benc.Text(s.name()), sizes}))
		return must(benc.Format(d))
	})
}

// claim is what a claim tells: the field, and the lengths of files by their numbers.
type claim struct {
	have  string
	sizes map[int]int
}

// readClaim reads a claim.
func (s *Store) readClaim(text string) claim {
	v := must(benc.Parse(text))
	refuse(v.Kind != api.BDict || !slices.Equal(v.Keys, []string{"have", "name", "sizes"}), api.ErrData)
	have, name, sizes := v.Kids[0], v.Kids[1], v.Kids[2]
	refuse(have.Kind != api.BText || name.Kind != api.BText || sizes.Kind != api.BList, api.ErrData)
	for _, x := range sizes.Kids {
		refuse(x.Kind != api.BInt || x.N < -1, api.ErrData)
	}
	l := s.proper()
	refuse(name.S != s.name() || !bits.Valid(len(s.had), have.S) || len(sizes.Kids) != len(l), api.ErrKind)
	c := claim{have.S, map[int]int{}}
	for i, k := range l {
		c.sizes[k] = sizes.Kids[i].N
	}
	return c
}

// holds reports whether a claim tells a piece, and its files have the lengths that it tells.
func (s *Store) holds(c claim, i int) bool {
	if has, _ := bits.Has(len(s.had), c.have, i); !has {
		return false
	}
	for x := range s.spans(i) {
		f := s.meta.Info.Files[x.File]
		if !f.Pad && s.length(s.path(x.File)) < min(c.sizes[x.File], f.Length) {
			return false
		}
	}
	return true
}

// Resume reads a claim.
func (s *Store) Resume(text string) (int, api.Errno) {
	return attempt(func() int {
		s.ask()
		refuse(len(text) > api.MaxText, api.ErrLong)
		c := s.readClaim(text)
		return s.prove(func(i int) bool { return s.holds(c, i) })
	})
}

// Move begins to move all files to another folder.
func (s *Store) Move(folder string) api.Errno {
	return do(func() {
		s.ask()
		askFolder(s.meta, folder)
		refuse(s.moving || folder == s.folder, api.ErrState)
		s.moving, s.target = true, folder
	})
}

// Step moves one file that exists; done tells that all are moved.
func (s *Store) Step() (done bool, e api.Errno) {
	return attempt(func() bool {
		s.ask()
		refuse(!s.moving, api.ErrState)
		folders := slices.Clone(s.folders)
		moved := false
		for _, k := range s.proper() {
			from := s.path(k)
			if folders[k] == s.target {
				continue
			}
			if s.length(from) >= 0 {
				if moved {
					s.folders = folders
					return false
				}
				s.rename(from, pathIn(s.target, s.meta.Info.Name, s.meta.Info.Files[k]))
				moved = true
			}
			folders[k] = s.target
		}
		s.folders = folders
		s.folder, s.moving = s.target, false
		return true
	})
}

// Folder tells the folder in which a file lies now.
func (s *Store) Folder(file int) (string, api.Errno) {
	return attempt(func() string {
		s.ask()
		l := s.meta.Info.Files
		refuse(file < 0 || file >= len(l), api.ErrRange)
		refuse(l[file].Pad, api.ErrKind)
		return s.folders[file]
	})
}

// Files returns the paths of all files that are no pads.
func (s *Store) Files() ([]string, api.Errno) {
	return attempt(func() []string {
		s.ask()
		var out []string
		for _, k := range s.proper() {
			out = append(out, s.path(k))
		}
		return out
	})
}
