package peer

import (
	"covey/api"
	"covey/wire"
)

// handlers are the ways in which messages are handled, by their kinds; some need nothing beyond the rules.
func handlers() [21]func(p *Peer, c *conn, m api.Msg) {
	return [21]func(p *Peer, c *conn, m api.Msg){
		api.MChoke: (*Peer).onChoke, api.MUnchoke: (*Peer).onUnchoke, api.MHave: (*Peer).onHave,
		api.MBits: (*Peer).onField, api.MAll: (*Peer).onField, api.MNone: (*Peer).onField,
		api.MPiece: (*Peer).onPiece, api.MReject: (*Peer).onReject, api.MAllowed: (*Peer).onAllowed, api.MSuggest: (*Peer).onSuggest,
	}
}

// handle takes a message by the rules, and does what its kind asks for.
func (p *Peer) handle(c *conn, m api.Msg) {
	breakOff(c.Step(false, m) != api.OK)
	if do := handlers()[m.Kind]; do != nil {
		do(p, c, m)
	}
}

func (p *Peer) onChoke(c *conn, _ api.Msg) {
	p.picker.Choke(c.who, true, c.fast)
	if !c.fast {
		clear(c.asked)
	}
}

func (p *Peer) onUnchoke(c *conn, _ api.Msg) { p.picker.Choke(c.who, false, false) }

func (p *Peer) onHave(c *conn, m api.Msg) {
	p.picker.Have(c.who, m.Index)
	delete(c.refused, m.Index)
}

func (p *Peer) onField(c *conn, m api.Msg) {
	p.picker.Has(c.who, must(wire.Field(p.store.Pieces(), m)))
}

func (p *Peer) onAllowed(c *conn, m api.Msg) { p.picker.Allow(c.who, m.Index) }

func (p *Peer) onSuggest(c *conn, m api.Msg) { p.picker.Suggest(c.who, m.Index) }

// onReject gives a block back; one that rejects though it lets is not asked for the piece for a while.
func (p *Peer) onReject(c *conn, m api.Msg) {
	x := api.Choice{Piece: m.Index, Begin: m.Begin, Length: m.Length}
	_, asked := c.asked[x]
	delete(c.asked, x)
	p.picker.Reject(c.who, p.picked(x))
	if asked && !c.Choked(false) {
		c.refused[m.Index] = true
		p.picker.Lost(c.who, m.Index)
	}
}

// onPiece takes a block.
func (p *Peer) onPiece(c *conn, m api.Msg) {
	x := api.Choice{Piece: m.Index, Begin: m.Begin, Length: len(m.Data)}
	p.got += len(m.Data)
	c.gave += len(m.Data)
	delete(c.asked, x)
	if c.snubbed {
		c.snubbed = false
		p.picker.Snub(c.who, false)
	}
	if !p.blame.May(c.who, m.Index) {
		// Another one began the piece, and one of both is suspected.
		p.picker.Reject(c.who, p.picked(x))
		return
	}
	cancel, whole, e := p.picker.Here(c.who, p.picked(x))
	if e == api.ErrRefused {
		cancel, whole, e = p.lateHere(x)
	}
	if e != api.OK {
		return
	}
	for _, a := range cancel {
		p.cancel(a)
	}
	p.blame.Sent(c.who, x, m.Data)
	p.late[x.Piece] = p.now
	p.decide(x, m.Data, whole)
	breakOff(!c.open)
}

// lateHere lets the picker take a block that was given up, and came all the same, if nobody else is asked for it.
func (p *Peer) lateHere(x api.Choice) (cancel []api.Asked, whole bool, e api.Errno) {
	e = api.ErrRefused
	p.picker.Have(ghost, x.Piece)
	l, _ := p.picker.Next(ghost, p.pickSize(x.Piece))
	for _, y := range l {
		if y == p.picked(x) {
			cancel, whole, e = p.picker.Here(ghost, y)
		} else {
			p.picker.Reject(ghost, y)
		}
	}
	p.picker.Lost(ghost, x.Piece)
	return cancel, whole, e
}

// decide gives a block to the store; whole tells that the picker has all blocks of its piece.
func (p *Peer) decide(x api.Choice, data string, whole bool) {
	i := x.Piece
	had, e := p.store.Block(x, data)
	switch {
	case had:
		p.picker.Done(i, true)
		banned, _ := p.blame.Good(i)
		p.ban(banned)
		p.sync()
	case e == api.ErrProof:
		p.free(i)
		p.failed[i] = true
		delete(p.late, i)
		banned, _ := p.blame.Fail(i)
		p.ban(banned)
		p.unmix()
	case e != api.OK || whole:
		// The store forgot blocks that the picker knows.
		p.restart(i)
	}
}

// unmix begins pieces anew to which several sent blocks of whom one is suspected: none of them may end it.
func (p *Peer) unmix() {
	for i := range p.store.Pieces() {
		senders := p.blame.Senders(i)
		suspect := false
		for _, n := range senders {
			suspect = suspect || p.blame.Parole(n) || p.blame.Banned(n)
		}
		if suspect && len(senders) > 1 {
			p.restart(i)
		}
	}
}

// cancel takes back what was asked of another one.
func (p *Peer) cancel(a api.Asked) {
	for _, c := range p.live() {
		if c.who == a.Peer {
			p.unask(c, p.real(a.Block))
		}
	}
}

// unask takes back a block that was asked. Without fast a cancelled block that is on its way already would break the rules: none is cancelled then.
func (p *Peer) unask(c *conn, x api.Choice) {
	delete(c.asked, x)
	if c.fast {
		p.send(c, api.Msg{Kind: api.MCancel, Index: x.Piece, Begin: x.Begin, Length: x.Length})
	}
}

// tell tells all that a piece is had.
func (p *Peer) tell(i int) {
	for _, c := range p.live() {
		if has, _ := c.Has(true, i); !has {
			p.send(c, api.Msg{Kind: api.MHave, Index: i})
		}
	}
}
