package meta

import (
	"slices"

	"covey/api"
	"covey/files"
	"covey/hash"
	"covey/tree"
)

// half is one of the two halves of content: how it is cut, and what proves its pieces.
type half interface {
	list() []api.File
	new() bool
	// right reports whether data are those of the piece k.
	right(k int, data string) bool
}

type oldHalf struct{ api.Meta }

func (h oldHalf) list() []api.File { return h.Info.Files }
func (h oldHalf) new() bool        { return false }

func (h oldHalf) right(k int, data string) bool { return hash.Old(data) == h.Info.Pieces[k] }

type newHalf struct{ api.Meta }

func (h newHalf) list() []api.File { return h.Info.Files }
func (h newHalf) new() bool        { return true }

// proof returns the node or root that proves the piece k, and how many leaves its tree has (0: as many as its data).
func (h newHalf) proof(k int) (node string, leaves int) {
	i := h.Info
	span := must(files.Spans(i.Files, i.Piece, true, k))[0]
	nth := 0
	for _, f := range i.Files[:span.File] {
		if !f.Pad {
			nth++
		}
	}
	if i.Files[span.File].Length > i.Piece {
		return h.Layers[nth][span.From/i.Piece], i.Piece / api.Block
	}
	return i.Roots[nth], 0
}

func (h newHalf) right(k int, data string) bool {
	if len(data) != must(files.Size(h.Info.Files, h.Info.Piece, true, k)) {
		return false
	}
	node, n := h.proof(k)
	leaves := must(tree.Leaves(data))
	for len(leaves) < n {
		leaves = append(leaves, hash.Zero())
	}
	return must(tree.Root(leaves)) == node
}

// halfOf returns a half of a metainfo.
func halfOf(m api.Meta, new bool) half {
	if new {
		refuse(!hasNew(m.Info), api.ErrKind)
		return newHalf{m}
	}
	refuse(!hasOld(m.Info), api.ErrKind)
	return oldHalf{m}
}

func count(h half, piece int) int { return must(files.Pieces(h.list(), piece, h.new())) }

// Count returns how many pieces a half has.
func Count(i api.Info, new bool) (int, api.Errno) {
	return attempt(func() int {
		askInfo(i)
		return count(halfOf(api.Meta{Info: i}, new), i.Piece)
	})
}

// Size returns the length of a piece of a half.
func Size(i api.Info, new bool, k int) (int, api.Errno) {
	return attempt(func() int {
		askInfo(i)
		h := halfOf(api.Meta{Info: i}, new)
		return must(files.Size(h.list(), i.Piece, h.new(), k))
	})
}

// Check reports whether data are those of a piece of a half.
func Check(m api.Meta, new bool, k int, data string) (bool, api.Errno) {
	return attempt(func() bool {
		refuse(len(data) > api.MaxText, api.ErrLong)
		askMeta(m)
		h := halfOf(m, new)
		refuse(k < 0 || k >= count(h, m.Info.Piece), api.ErrRange)
		return h.right(k, data)
	})
}

// Piece returns what the new half proves a piece by.
func Piece(m api.Meta, k int) (string, api.Errno) {
	return attempt(func() string {
		askMeta(m)
		h := halfOf(m, true)
		refuse(k < 0 || k >= count(h, m.Info.Piece), api.ErrRange)
		node, _ := newHalf{m}.proof(k)
		return node
	})
}

// Whole reports whether all files' data are proved by all halves that there are.
func Whole(m api.Meta, data []string) (bool, api.Errno) {
	return attempt(func() bool {
		askMeta(m)
		if !fit(m.Info.Files, data) {
			return false
		}
		for _, new := range []bool{false, true} {
			if new && !hasNew(m.Info) || !new && !hasOld(m.Info) {
				continue
			}
			h := halfOf(m, new)
			for k := range count(h, m.Info.Piece) {
				spans := must(files.Spans(h.list(), m.Info.Piece, new, k))
				if !h.right(k, must(files.Read(m.Info.Files, data, spans))) {
					return false
				}
			}
		}
		return true
	})
}

func cloneTexts(l [][]string) [][]string {
	var out [][]string
	for _, x := range l {
		out = append(out, slices.Clone(x))
	}
	return out
}

// Half is the metainfo with one half alone.
func Half(m api.Meta, new bool) (api.Meta, api.Errno) {
	return attempt(func() api.Meta {
		askMeta(m)
		halfOf(m, new)
		i := m.Info
		out := api.Meta{Trackers: cloneTexts(m.Trackers), Webs: slices.Clone(m.Webs), Comment: m.Comment}
		out.Info = api.Info{Name: i.Name, Version: api.VOld, Piece: i.Piece, Private: i.Private}
		if new {
			out.Info.Version = api.VNew
			out.Info.Files = cloneFiles(proper(i.Files))
			out.Info.Roots = slices.Clone(i.Roots)
			out.Layers = cloneTexts(m.Layers)
			return out
		}
		out.Info.Files = cloneFiles(i.Files)
		out.Info.Pieces = slices.Clone(i.Pieces)
		return out
	})
}
