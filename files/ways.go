package files

import (
	"iter"
	"slices"

	"covey/api"
)

// way is how files lie in the row from which pieces are cut.
type way interface {
	// place returns where a file with bytes begins in the row of which the part up to end is taken; false if it is not there.
	place(f api.File, end int) (int, bool)
}

// oldWay: all files stand one behind the other.
type oldWay struct{}

func (oldWay) place(f api.File, end int) (int, bool) { return end, true }

// newWay: each file that is no pad begins with a piece of its own.
type newWay struct{ piece int }

func (w newWay) place(f api.File, end int) (int, bool) {
	return (end + w.piece - 1) / w.piece * w.piece, !f.Pad
}

// row is a list's files as they lie by a way.
type row struct {
	way   way
	l     []api.File
	piece int
}

func newRow(l []api.File, piece int, new bool) row {
	askList(l)
	refuse(!Piece(piece), api.ErrRange)
	if new {
		return row{newWay{piece}, l, piece}
	}
	return row{oldWay{}, l, piece}
}

// placed yields the files that lie in the row, each with where it begins there.
func (r row) placed() iter.Seq2[int, int] {
	return func(yield func(int, int) bool) {
		end := 0
		for i, f := range r.l {
			if f.Length == 0 {
				continue
			}
			start, in := r.way.place(f, end)
			if !in {
				continue
			}
			if !yield(i, start) {
				return
			}
			end = start + f.Length
		}
	}
}

// spans yields the parts of files between two places of the row.
func (r row) spans(from, to int) iter.Seq[api.Span] {
	return func(yield func(api.Span) bool) {
		for i, start := range r.placed() {
			a, z := max(from, start), min(to, start+r.l[i].Length)
			if a < z && !yield(api.Span{File: i, From: a - start, Count: z - a}) {
				return
			}
		}
	}
}

func (r row) pieces() int {
	end := 0
	for i, start := range r.placed() {
		end = start + r.l[i].Length
	}
	return (end + r.piece - 1) / r.piece
}

func (r row) piecesOf(file int) api.Run {
	for i, start := range r.placed() {
		if i == file {
			from := start / r.piece
			return api.Run{From: from, Count: (start+r.l[i].Length-1)/r.piece + 1 - from}
		}
	}
	return api.Run{}
}

func (r row) askPiece(i int) { refuse(i < 0 || i >= r.pieces(), api.ErrRange) }

// Pieces returns how many pieces there are.
func Pieces(l []api.File, piece int, new bool) (int, api.Errno) {
	return attempt(func() int { return newRow(l, piece, new).pieces() })
}

// Size returns the length of a piece.
func Size(l []api.File, piece int, new bool, i int) (int, api.Errno) {
	return attempt(func() int {
		r := newRow(l, piece, new)
		r.askPiece(i)
		n := 0
		for s := range r.spans(i*piece, i*piece+piece) {
			n += s.Count
		}
		return n
	})
}

// Spans returns which parts of which files a piece has.
func Spans(l []api.File, piece int, new bool, i int) ([]api.Span, api.Errno) {
	return attempt(func() []api.Span {
		r := newRow(l, piece, new)
		r.askPiece(i)
		return slices.Collect(r.spans(i*piece, i*piece+piece))
	})
}

// Where returns the piece, and the byte in it, of a byte of a file.
func Where(l []api.File, piece int, new bool, file, at int) (i, begin int, e api.Errno) {
	place, e := attempt(func() int {
		r := newRow(l, piece, new)
		askFile(l, file)
		refuse(at < 0 || at >= l[file].Length, api.ErrRange)
		for k, start := range r.placed() {
			if k == file {
				return start + at
			}
		}
		panic(api.ErrKind)
	})
	if e != api.OK {
		return 0, 0, e
	}
	return place / piece, place % piece, api.OK
}

// Of returns the pieces that hold something of a file.
func Of(l []api.File, piece int, new bool, file int) (api.Run, api.Errno) {
	return attempt(func() api.Run {
		r := newRow(l, piece, new)
		askFile(l, file)
		return r.piecesOf(file)
	})
}

// Cover returns the pieces that hold something of any of some files.
func Cover(l []api.File, piece int, new bool, files []int) ([]int, api.Errno) {
	return attempt(func() []int {
		r := newRow(l, piece, new)
		in := make([]bool, r.pieces())
		for _, f := range files {
			askFile(l, f)
			x := r.piecesOf(f)
			for i := range x.Count {
				in[x.From+i] = true
			}
		}
		var out []int
		for i, covered := range in {
			if covered {
				out = append(out, i)
			}
		}
		return out
	})
}
