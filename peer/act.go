package peer

import (
	"strings"

	"covey/api"
	"covey/bits"
	"covey/choke"
	"covey/hash"
)

const (
	roundEvery = 10
	giveUp     = 30
	// stale is longer than anyone waits to be let again: what one that is suspected began nobody else may end.
	stale = 600
	// calm is longer than anything is on its way.
	calm = 30
	// turn is how long one keeps the place by turns.
	turn = 30
	// fading is how many eighths of what was given count in the next round.
	fading = 6
)

// asker is a way of asking for blocks.
type asker interface {
	// choices chooses blocks for a connection, and marks them as asked.
	choices(p *Peer, c *conn, most int) []api.Choice
}

// freely asks as the picker chooses.
type freely struct{}

func (freely) choices(p *Peer, c *conn, most int) []api.Choice {
	l, _ := p.picker.Next(c.who, most)
	return l
}

// carefully leaves out pieces for which blame lets the other one not be asked.
type carefully struct{}

func (carefully) choices(p *Peer, c *conn, most int) []api.Choice {
	var hidden []int
	claimed := p.claimed(c)
	for i := range p.store.Pieces() {
		if has, _ := c.Has(false, i); has && !c.refused[i] && (claimed[i] || !p.blame.May(c.who, i)) {
			hidden = append(hidden, i)
			p.picker.Lost(c.who, i)
		}
	}
	l, _ := p.picker.Next(c.who, most)
	for _, i := range hidden {
		p.picker.Have(c.who, i)
	}
	return l
}

// claimed are the pieces of which blocks are asked of others, where one of both is suspected: they must not be mixed.
func (p *Peer) claimed(c *conn) map[int]bool {
	out := map[int]bool{}
	suspect := p.blame.Parole(c.who)
	for _, x := range p.live() {
		if x == c || !suspect && !p.blame.Parole(x.who) {
			continue
		}
		for y := range x.asked {
			out[y.Piece] = true
		}
	}
	return out
}

// asking is the way of asking now.
func (p *Peer) asking() asker {
	if len(p.failed) == 0 {
		return freely{}
	}
	return carefully{}
}

// act does what a peer must do on all connections.
func (p *Peer) act() {
	for _, c := range p.live() {
		p.interest(c)
		p.answer(c)
	}
	p.sync()
	for _, c := range p.live() {
		p.request(c)
	}
}

// interest tells whether the other one has something that is wanted.
func (p *Peer) interest(c *conn) {
	n := p.store.Pieces()
	more, _ := bits.Without(n, c.Field(false), p.store.Had())
	count, _ := bits.Count(n, more)
	wants := count > 0
	if wants == c.Wants(true) {
		return
	}
	kind := api.MNot
	if wants {
		kind = api.MInterested
	}
	p.send(c, api.Msg{Kind: kind})
}

// answer answers requests that wait, or rejects them.
func (p *Peer) answer(c *conn) {
	owed := map[api.Choice]bool{}
	for _, x := range c.Side.Owed(true) {
		owed[x] = true
	}
	for _, x := range c.Side.Waiting(true) {
		if !c.open {
			return
		}
		if owed[x] || c.Choked(true) || !p.give(c, x) {
			p.reject(c, x)
		}
	}
}

// reject refuses a request; without fast that can't be told, and the connection is closed.
func (p *Peer) reject(c *conn, x api.Choice) {
	if !p.send(c, api.Msg{Kind: api.MReject, Index: x.Piece, Begin: x.Begin, Length: x.Length}) {
		p.close(c)
	}
}

// give sends a block; false if it is not there any more.
func (p *Peer) give(c *conn, x api.Choice) bool {
	data, ok := p.read(c, x)
	if !ok {
		return false
	}
	if p.client.Lie > 0 && (p.sentCount+1)%p.client.Lie == 0 {
		data = string([]byte{data[0] ^ 255}) + data[1:]
	}
	if !p.send(c, api.Msg{Kind: api.MPiece, Index: x.Piece, Begin: x.Begin, Data: data}) {
		return false
	}
	p.sentCount++
	p.sent += len(data)
	c.got += len(data)
	return true
}

// read reads what a request asks for; what is beyond the own piece on a connection of the old way is zeros.
func (p *Peer) read(c *conn, x api.Choice) (string, bool) {
	end := x.Begin + x.Length
	if end > p.ways[index(c.new)].sizes[x.Piece] {
		return "", false
	}
	size := p.size(x.Piece)
	var b strings.Builder
	from := x.Begin / api.Block * api.Block
	for begin := from; begin < min(end, size); begin += api.Block {
		data, e := p.store.Read(p.real(api.Choice{Piece: x.Piece, Begin: begin}))
		if e != api.OK {
			return "", false
		}
		b.WriteString(data)
	}
	if has, _ := p.store.Has(x.Piece); !has {
		return "", false
	}
	b.WriteString(strings.Repeat("\x00", max(0, end-max(size, from))))
	return b.String()[x.Begin-from:][:x.Length], true
}

// request asks for as many blocks as may be asked at once.
func (p *Peer) request(c *conn) {
	most := p.client.Queue - len(c.Side.Waiting(false))
	if most <= 0 {
		return
	}
	for _, y := range p.asking().choices(p, c, most) {
		x := p.real(y)
		if p.send(c, api.Msg{Kind: api.MRequest, Index: x.Piece, Begin: x.Begin, Length: x.Length}) {
			c.asked[x] = unsent
		} else {
			p.picker.Reject(c.who, y)
		}
	}
}

// isLate reports whether a block was asked long ago.
func (p *Peer) isLate(c *conn, x api.Choice) bool {
	at, asked := c.asked[x]
	return asked && at != unsent && p.now-at >= giveUp
}

// giveUps gives up what was asked long ago.
func (p *Peer) giveUps(c *conn) {
	late := false
	for x := range c.asked {
		late = late || p.isLate(c, x)
	}
	if !late {
		return
	}
	for _, y := range p.picker.Asked(c.who) {
		if x := p.real(y); p.isLate(c, x) {
			p.picker.Reject(c.who, y)
			p.unask(c, x)
		}
	}
	for x := range c.asked {
		if p.isLate(c, x) {
			delete(c.asked, x)
		}
	}
	c.snubbed = true
	p.picker.Snub(c.who, true)
}

// waits reports whether another one wants something and may be let. Without fast a request that is on its way when it is choked must not meet a later unchoke: nothing tells that it was dropped.
func (p *Peer) waits(c *conn) bool {
	return c.Choked(true) && c.Wants(false) && (c.fast || c.choked == 0 || p.now-c.choked+1 >= calm)
}

// rated are the others as they are seen when it is chosen whom to let. One that was let a short while ago counts as never let: it keeps the place by turns until what it asks for could come.
func (p *Peer) rated(l []*conn) []api.Rated {
	var out []api.Rated
	for _, c := range l {
		let := c.let + 1
		if !c.Choked(true) && p.now-c.let+1 < turn {
			let = 0
		}
		out = append(out, api.Rated{Peer: c.who, Wants: p.waits(c) || !c.Choked(true) && c.Wants(false), Gave: c.gave, Got: c.got, Snubbed: c.snubbed, Let: let})
	}
	return out
}

// setLet lets another one, or chokes it.
func (p *Peer) setLet(c *conn, let bool) {
	if let != c.Choked(true) {
		return
	}
	if let {
		c.let = p.now + 1
		p.send(c, api.Msg{Kind: api.MUnchoke})
		return
	}
	c.choked = p.now + 1
	p.send(c, api.Msg{Kind: api.MChoke})
}

// round chooses whom to let.
func (p *Peer) round() {
	l := p.live()
	if len(l) > 200 {
		l = l[:200]
	}
	behind, _ := hash.Draw(p.seed, p.rounds, ghost)
	p.rounds++
	p.lastRound = p.now
	chosen, e := choke.Choose(p.rated(l), p.client.Slots, p.Done(), behind)
	if e != api.OK {
		return
	}
	let := map[int]bool{}
	for _, n := range chosen {
		let[n] = true
	}
	for _, c := range l {
		p.setLet(c, let[c.who])
		// Blocks come in bursts on long links: what came a while ago counts still, but less.
		c.gave, c.got = c.gave*fading/8, c.got*fading/8
	}
}

// room lets one that waits, if fewer are let than may be.
func (p *Peer) room() {
	l := p.live()
	n := 0
	for _, c := range l {
		if !c.Choked(true) {
			n++
		}
	}
	for n <= p.client.Slots {
		var best *conn
		for _, c := range l {
			if p.waits(c) && (best == nil || c.let < best.let) {
				best = c
			}
		}
		if best == nil {
			return
		}
		p.setLet(best, true)
		n++
	}
}

// tick does what hangs on the time alone.
func (p *Peer) tick() {
	for _, c := range p.live() {
		p.giveUps(c)
	}
	for i, at := range p.late {
		if len(p.failed) > 0 && p.now-at >= stale {
			p.restart(i)
		}
	}
	if p.now-p.lastRound < roundEvery {
		p.room()
		return
	}
	for _, c := range p.live() {
		for i := range c.refused {
			p.picker.Have(c.who, i)
		}
		clear(c.refused)
	}
	p.round()
}

// Tick tells the time.
func (p *Peer) Tick(now int) api.Errno {
	_, e := attempt(func() bool {
		p.ask()
		refuse(!within(now, p.now, api.MaxTime), api.ErrRange)
		p.now = now
		p.tick()
		p.after()
		return true
	})
	return e
}
