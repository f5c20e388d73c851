package pick

import (
	"math"
	"slices"

	"covey/api"
	"covey/bits"
)

// keys are by what candidates are ordered, the first one first.
type keys [7]int

// candidate is a piece that may be asked of a peer.
type candidate struct {
	keys
	piece int
}

// later turns a truth into a key by which what holds comes first.
func later(holds bool) int {
	if holds {
		return 0
	}
	return 1
}

// wanted reports whether a piece is not had and has a Level above 0.
func (p *Picker) wanted(i int) bool { return !p.pieces[i].had && p.pieces[i].wish.Level > 0 }

// keysOf are the keys of a piece for a peer.
func (p *Picker) keysOf(x *peer, i int) keys {
	y := p.pieces[i]
	k := keys{math.MaxInt, later(y.busy > 0), later(x.suggested[i]), -y.wish.Level, 0, 0, i}
	if y.wish.Due > 0 {
		k[0] = y.wish.Due
	}
	if !p.inorder {
		k[4], k[5] = p.counts[i], y.tie
	}
	return k
}

// sorted sorts candidates by an order of their keys.
func sorted(l []candidate, order func(a, b keys) int) []candidate {
	slices.SortFunc(l, func(a, b candidate) int { return order(a.keys, b.keys) })
	return l
}

// candidates are the pieces that may be asked of a peer, in their order; take tells which ones count.
func (p *Picker) candidates(x *peer, take func(i int) bool) []candidate {
	var l []candidate
	for i := range x.has {
		if p.wanted(i) && (!x.chokes || x.allowed[i]) && take(i) {
			l = append(l, candidate{p.keysOf(x, i), i})
		}
	}
	return sorted(l, func(a, b keys) int { return slices.Compare(a[:], b[:]) })
}

// hasFree reports whether a piece has a free block.
func (p *Picker) hasFree(i int) bool { return p.pieces[i].busy < p.many(i) }

// ending reports whether no block that is wanted is free.
func (p *Picker) ending() bool {
	for i := range p.pieces {
		if p.wanted(i) && p.hasFree(i) {
			return false
		}
	}
	return true
}

// free chooses free blocks.
func (p *Picker) free(x *peer, most int) []api.Choice {
	var out []api.Choice
	for _, y := range p.candidates(x, p.hasFree) {
		for c := range p.all(y.piece) {
			if len(out) == most {
				return out
			}
			if _, busy := p.blocks[at(c)]; !busy {
				out = append(out, c)
			}
		}
	}
	return out
}

// more chooses blocks that are asked of others, by the rule of the end game.
func (p *Picker) more(n int, x *peer, most int) []api.Choice {
	var out []api.Choice
	l := p.candidates(x, func(int) bool { return true })
	for askers := 1; askers < mostAsked; askers++ {
		for _, y := range l {
			for c := range p.all(y.piece) {
				if len(out) == most {
					return out
				}
				b := p.blocks[at(c)]
				if !b.here && len(b.asked) == askers && !slices.Contains(b.asked, n) {
					out = append(out, c)
				}
			}
		}
	}
	return out
}

// choose chooses blocks for a peer.
func (p *Picker) choose(n int, x *peer, most int) []api.Choice {
	if x.snubbed {
		most = min(most, 1-min(1, len(x.asked)))
	}
	if most == 0 {
		return nil
	}
	if p.ending() {
		return p.more(n, x, most)
	}
	return p.free(x, most)
}

// Look tells the blocks that Next would choose.
func (p *Picker) Look(n, most int) ([]api.Choice, api.Errno) {
	var out []api.Choice
	e := p.change(n, func() { refuse(most < 0, api.ErrRange) }, func(x *peer) { out = p.choose(n, x, most) })
	return out, e
}

// Next chooses blocks, and marks them as asked of a peer.
func (p *Picker) Next(n, most int) ([]api.Choice, api.Errno) {
	out, e := p.Look(n, most)
	for _, c := range out {
		b := p.blocks[at(c)]
		b.asked = append(slices.Clone(b.asked), n)
		p.put(c, b)
		x := p.peers.peers[n]
		x.asked = append(x.asked, c)
	}
	return out, e
}

// askBlock asks a block of a piece.
func (p *Picker) askBlock(c api.Choice) {
	n := p.length(c.Piece)
	refuse(c.Begin < 0 || c.Begin >= n || c.Begin%api.Block != 0 || c.Length != min(api.Block, n-c.Begin), api.ErrInvalid)
}

// arrived is what comes of a block that came.
type arrived struct {
	cancel []api.Asked
	whole  bool
}

// Here takes a block that came.
func (p *Picker) Here(n int, c api.Choice) (cancel []api.Asked, whole bool, e api.Errno) {
	var a arrived
	e = p.change(n, func() { p.askPiece(c.Piece) }, func(x *peer) {
		p.askBlock(c)
		b := p.blocks[at(c)]
		refuse(p.pieces[c.Piece].had || b.here, api.ErrState)
		refuse(!slices.Contains(b.asked, n), api.ErrRefused)
		for _, other := range slices.Sorted(slices.Values(b.asked)) {
			p.unask(other, c)
			if other != n {
				a.cancel = append(a.cancel, api.Asked{Peer: other, Block: c})
			}
		}
		p.put(c, block{here: true})
		a.whole = p.pieces[c.Piece].here == p.many(c.Piece)
	})
	return a.cancel, a.whole, e
}

// Reject tells that a block is not asked of a peer any more.
func (p *Picker) Reject(n int, c api.Choice) api.Errno {
	return p.change(n, func() { p.askPiece(c.Piece) }, func(x *peer) {
		p.askBlock(c)
		refuse(!slices.Contains(x.asked, c), api.ErrRefused)
		p.unask(n, c)
	})
}

// empty frees all blocks of a piece.
func (p *Picker) empty(i int) {
	for c := range p.all(i) {
		for _, n := range slices.Clone(p.blocks[at(c)].asked) {
			p.unask(n, c)
		}
		p.put(c, block{})
	}
}

// Done ends a piece of which all blocks are here.
func (p *Picker) Done(i int, good bool) api.Errno {
	_, e := attempt(func() bool {
		p.ask()
		p.askPiece(i)
		refuse(p.pieces[i].had || p.pieces[i].here < p.many(i), api.ErrState)
		p.empty(i)
		p.pieces[i].had = good
		return true
	})
	return e
}

// Set sets a piece to had, or to not had with all blocks free.
func (p *Picker) Set(i int, had bool) api.Errno {
	_, e := attempt(func() bool {
		p.ask()
		p.askPiece(i)
		p.empty(i)
		p.pieces[i].had = had
		return true
	})
	return e
}

// Had is the field of what is had.
func (p *Picker) Had() string {
	if p == nil {
		return ""
	}
	var l []int
	for i, x := range p.pieces {
		if x.had {
			l = append(l, i)
		}
	}
	s, _ := bits.Of(p.n, l)
	return s
}

// Count returns how many peers have a piece.
func (p *Picker) Count(i int) (int, api.Errno) {
	return attempt(func() int {
		p.ask()
		p.askPiece(i)
		return p.counts[i]
	})
}

// Asked returns the blocks that are asked of a peer.
func (p *Picker) Asked(n int) []api.Choice {
	if p == nil || p.peers.peers[n] == nil {
		return nil
	}
	return slices.Clone(p.peers.peers[n].asked)
}

// Free returns a piece's free blocks.
func (p *Picker) Free(i int) ([]api.Choice, api.Errno) {
	return attempt(func() []api.Choice {
		p.ask()
		p.askPiece(i)
		var out []api.Choice
		for c := range p.all(i) {
			if _, busy := p.blocks[at(c)]; !busy && !p.pieces[i].had {
				out = append(out, c)
			}
		}
		return out
	})
}

// Interested reports whether a peer has a piece that is wanted.
func (p *Picker) Interested(n int) (bool, api.Errno) {
	wants := false
	e := p.change(n, nothing, func(x *peer) {
		for i := range x.has {
			wants = wants || p.wanted(i)
		}
	})
	return wants, e
}

// Ending reports whether it is end game.
func (p *Picker) Ending() bool { return p != nil && p.n > 0 && p.ending() }

// Left returns how many blocks that are wanted are not here.
func (p *Picker) Left() int {
	if p == nil {
		return 0
	}
	n := 0
	for i, x := range p.pieces {
		if p.wanted(i) {
			n += p.many(i) - x.here
		}
	}
	return n
}
