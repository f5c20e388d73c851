package choke

import (
	"slices"
	"strconv"
	"strings"

	"covey/api"
	"covey/hash"
)

// shown is a peer as a Super knows it: which pieces it was told, in order, and which it holds.
type shown struct {
	told  []int
	holds map[int]bool
}

// counted are how many of the peers that are there were told a piece, and hold it.
type counted struct{ told, held []int }

// Super shows each peer one piece after the other.
type Super struct {
	counted
	seed  string
	peers map[int]*shown
}

// NewSuper begins super-seeding.
func NewSuper(seed string, pieces int) (*Super, api.Errno) {
	return attempt(func() *Super {
		refuse(len(seed) > mostSeed, api.ErrInvalid)
		refuse(!within(pieces, 1, api.MaxBits), api.ErrRange)
		return &Super{counted: counted{make([]int, pieces), make([]int, pieces)}, seed: seed, peers: map[int]*shown{}}
	})
}

func (s *Super) ask(id int) {
	refuse(s == nil || s.peers == nil, api.ErrInvalid)
	refuse(id < 0, api.ErrRange)
}

func (s *Super) askPiece(piece int) { refuse(!within(piece, 0, len(s.told)-1), api.ErrRange) }

// of returns a peer that must be there.
func (s *Super) of(id int) *shown {
	x := s.peers[id]
	refuse(x == nil, api.ErrNone)
	return x
}

// Come tells that a peer came.
func (s *Super) Come(id int) api.Errno {
	_, e := attempt(func() bool {
		s.ask(id)
		refuse(s.peers[id] != nil, api.ErrDuplicate)
		s.peers[id] = &shown{holds: map[int]bool{}}
		return true
	})
	return e
}

// Go tells that a peer went.
func (s *Super) Go(id int) api.Errno {
	_, e := attempt(func() bool {
		s.ask(id)
		x := s.of(id)
		for _, i := range x.told {
			s.told[i]--
		}
		for i := range x.holds {
			s.held[i]--
		}
		delete(s.peers, id)
		return true
	})
	return e
}

// Holds tells that a peer holds a piece.
func (s *Super) Holds(id, piece int) api.Errno {
	_, e := attempt(func() bool {
		s.ask(id)
		s.askPiece(piece)
		x := s.of(id)
		refuse(x.holds[piece], api.ErrState)
		x.holds[piece] = true
		s.held[piece]++
		return true
	})
	return e
}

// waits reports whether a peer must wait: nobody else holds what it was told last.
func (s *Super) waits(x *shown) bool {
	if len(x.told) == 0 {
		return false
	}
	last := x.told[len(x.told)-1]
	if len(s.peers) == 1 {
		return !x.holds[last]
	}
	others := s.held[last]
	if x.holds[last] {
		others--
	}
	return others == 0
}

// drawer returns the function that draws for a piece.
func (s *Super) drawer() func(piece int) string {
	return func(piece int) string { return hash.Old(s.seed + ":" + strconv.Itoa(piece)) }
}

// Next returns the piece that a peer is to be told now.
func (s *Super) Next(id int) (int, api.Errno) {
	return attempt(func() int {
		s.ask(id)
		x := s.of(id)
		refuse(s.waits(x), api.ErrState)
		draw := s.drawer()
		by := order(up(func(i int) int { return s.told[i] }), up(func(i int) int { return s.held[i] }))
		best := -1
		for i := range s.told {
			if x.holds[i] || slices.Contains(x.told, i) {
				continue
			}
			c := -1
			if best >= 0 {
				c = by(i, best)
			}
			if c < 0 || c == 0 && strings.Compare(draw(i), draw(best)) < 0 {
				best = i
			}
		}
		refuse(best < 0, api.ErrState)
		x.told = append(x.told, best)
		s.told[best]++
		return best
	})
}

// Told returns the pieces that a peer was told.
func (s *Super) Told(id int) ([]int, api.Errno) {
	return attempt(func() []int {
		s.ask(id)
		return slices.Clone(s.of(id).told)
	})
}

// Count counts the peers to which a piece was told, and that hold it.
func (s *Super) Count(piece int) (told, held int, e api.Errno) {
	n, e := attempt(func() [2]int {
		s.ask(0)
		s.askPiece(piece)
		return [2]int{s.told[piece], s.held[piece]}
	})
	return n[0], n[1], e
}

// Whole reports whether each piece is held by a peer that is there.
func (s *Super) Whole() bool { return s != nil && s.peers != nil && !slices.Contains(s.held, 0) }
