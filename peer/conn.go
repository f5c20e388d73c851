package peer

import (
	"maps"
	"slices"

	"covey/api"
	"covey/bits"
	"covey/fast"
	"covey/wire"
)

const (
	mostWaiting = 1000
	chunk       = 4096
	unsent      = -1
)

// conn is a connection: its rules, when they are known, and its reader.
type conn struct {
	*fast.Side
	*wire.Reader
	open bool
	call bool
	new  bool
	fast bool
	// who is the number of the other one, 0 before its handshake.
	who int
	out []byte
	// asked are the blocks that were asked, and when their requests were taken to be sent.
	asked map[api.Choice]int
	// refused are the pieces of which blocks were rejected though we are let.
	refused map[int]bool
	snubbed bool
	gave    int
	got     int
	// let and choked are one more than the times at which the other one was let and choked last, 0 if never.
	let, choked int
}

// closing is what leaves a connection that is closed.
type closing struct{}

// breakOff closes the connection that is at work if something is wrong.
func breakOff(wrong bool) {
	if wrong {
		panic(closing{})
	}
}

func askConn(n int) { refuse(!within(n, 1, mostConn), api.ErrRange) }

// hello is the own handshake of a way.
func (p *Peer) hello(new bool) string {
	h := api.Hello{Fast: p.client.Fast, New: hasNew(p.client.Version), Name: p.ways[index(new)].name, Peer: p.client.Peer}
	return must(wire.Hello(h))
}

// Connect begins a connection.
func (p *Peer) Connect(n int, call, new bool) api.Errno {
	_, e := attempt(func() bool {
		p.ask()
		refuse(call && !p.ways[index(new)].has, api.ErrKind)
		askConn(n)
		old := p.conns[n]
		refuse(old != nil && old.open, api.ErrDuplicate)
		c := &conn{Reader: wire.New(true), open: true, call: call, new: call && new, asked: map[api.Choice]int{}, refused: map[int]bool{}}
		p.conns[n] = c
		if call {
			c.out = append(c.out, p.hello(new)...)
		}
		return true
	})
	return e
}

// opened are the numbers of open connections, ascending.
func (p *Peer) opened() []int {
	var out []int
	for _, n := range slices.Sorted(maps.Keys(p.conns)) {
		if p.conns[n].open {
			out = append(out, n)
		}
	}
	return out
}

// live are the open connections that told their first message, by their numbers.
func (p *Peer) live() []*conn {
	var out []*conn
	for _, n := range p.opened() {
		if c := p.conns[n]; c.Side != nil {
			out = append(out, c)
		}
	}
	return out
}

// close closes a connection.
func (p *Peer) close(c *conn) {
	if !c.open {
		return
	}
	c.open = false
	if c.who == 0 || c.Side == nil {
		return
	}
	p.picker.Leave(c.who)
	suspect := p.blame.Parole(c.who) || p.blame.Banned(c.who)
	for i := range p.late {
		if suspect && slices.Contains(p.blame.Senders(i), c.who) {
			// Nobody else may end what one that is suspected began.
			p.restart(i)
		}
	}
}

// ban closes the connections of those that are banned.
func (p *Peer) ban(l []int) {
	for _, c := range p.live() {
		if slices.Contains(l, c.who) {
			p.close(c)
		}
	}
}

// take feeds bytes to a connection, and handles what is whole.
func (p *Peer) take(c *conn, s string) {
	defer func() {
		if x := recover(); x != nil {
			if _, ok := x.(closing); !ok {
				panic(x)
			}
			p.close(c)
		}
	}()
	for first := true; first || s != ""; first = false {
		n := min(chunk, len(s))
		e := c.Feed(s[:n])
		s = s[n:]
		p.greet(c)
		for c.open {
			m, ok := c.Next()
			if !ok {
				break
			}
			p.handle(c, m)
		}
		breakOff(e != api.OK || !c.open)
	}
}

// Feed takes bytes that came.
func (p *Peer) Feed(n int, s string) api.Errno {
	_, e := attempt(func() bool {
		p.ask()
		askConn(n)
		c := p.conns[n]
		refuse(c == nil || !c.open, api.ErrNone)
		p.take(c, s)
		p.after()
		refuse(!c.open, api.ErrRefused)
		return true
	})
	return e
}

// number is the number of a Peer.
func (p *Peer) number(name string) int {
	n, ok := p.numbers[name]
	if !ok {
		n = len(p.numbers) + 1
		breakOff(n >= ghost)
		p.numbers[name] = n
	}
	return n
}

// wayOf tells the way of a Name.
func (p *Peer) wayOf(name string) (new, known bool) {
	for _, new := range []bool{false, true} {
		if w := p.ways[index(new)]; w.has && w.name == name {
			return new, true
		}
	}
	return false, false
}

// greet takes the other's handshake, as soon as it is there.
func (p *Peer) greet(c *conn) {
	h, there := c.Hello()
	if !there || c.Side != nil {
		return
	}
	new, known := p.wayOf(h.Name)
	breakOff(!known || c.call && new != c.new)
	breakOff(h.Peer == p.client.Peer)
	who := p.number(h.Peer)
	breakOff(p.blame.Banned(who))
	for _, x := range p.live() {
		breakOff(x.who == who)
	}
	c.new, c.fast = new, h.Fast && p.client.Fast
	if !c.call {
		c.out = append(c.out, p.hello(new)...)
	}
	sizes := p.ways[index(new)].sizes
	n := len(sizes)
	c.Side = must(fast.New(n, p.info.Piece, sizes[n-1], mostWaiting, c.fast))
	c.who = who
	p.picker.Join(who)
	p.first(c)
}

// first sends the first message.
func (p *Peer) first(c *conn) {
	n := p.store.Pieces()
	count, _ := bits.Count(n, p.had)
	switch {
	case c.fast && count == n:
		p.send(c, api.Msg{Kind: api.MAll})
	case c.fast && count == 0:
		p.send(c, api.Msg{Kind: api.MNone})
	case count > 0:
		p.send(c, api.Msg{Kind: api.MBits, Data: p.had})
	}
}

// send sends a message, if the rules let it.
func (p *Peer) send(c *conn, m api.Msg) bool {
	if !c.open || c.Side == nil || c.Step(true, m) != api.OK {
		return false
	}
	c.out = append(c.out, must(wire.Encode(m))...)
	return true
}

// Out takes what is to be sent on a connection.
func (p *Peer) Out(n int) string {
	if p == nil || p.conns[n] == nil {
		return ""
	}
	c := p.conns[n]
	s := string(c.out)
	c.out = nil
	for x, at := range c.asked {
		if at == unsent {
			c.asked[x] = p.now
		}
	}
	return s
}

// Close closes a connection.
func (p *Peer) Close(n int) api.Errno {
	_, e := attempt(func() bool {
		p.ask()
		askConn(n)
		c := p.conns[n]
		refuse(c == nil || !c.open, api.ErrNone)
		p.close(c)
		p.after()
		return true
	})
	return e
}

// Open reports whether a connection is open.
func (p *Peer) Open(n int) bool { return p != nil && p.conns[n] != nil && p.conns[n].open }

// Conns returns the connections that are open.
func (p *Peer) Conns() []int {
	if p == nil {
		return nil
	}
	return p.opened()
}

// Other returns the other's handshake.
func (p *Peer) Other(n int) (api.Hello, bool) {
	if p == nil || p.conns[n] == nil {
		return api.Hello{}, false
	}
	return p.conns[n].Hello()
}

// ruled returns an open connection whose rules are known; nil otherwise.
func (p *Peer) ruled(n int) *conn {
	if !p.Open(n) || p.conns[n].Side == nil {
		return nil
	}
	return p.conns[n]
}

// Lets reports whether the peer lets the other one.
func (p *Peer) Lets(n int) bool {
	c := p.ruled(n)
	return c != nil && !c.Choked(true)
}

// Let reports whether the other one lets the peer.
func (p *Peer) Let(n int) bool {
	c := p.ruled(n)
	return c != nil && !c.Choked(false)
}
