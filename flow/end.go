package flow

import (
	"covey/api"
)

// The states of an end.
const (
	begun = iota
	opening
	open
	ending
	closed
	reset
)

const (
	leastRoom   = api.MaxBody
	firstLimit  = 4200
	mostLimit   = 1000000
	leastOut    = 10
	mostWaiting = 100000
)

// End is an end of a connection.
type End struct {
	outgoing
	incoming
	opener  bool
	conn    int
	now     int
	state   int
	closing bool
	resets  bool
}

// New makes an end.
func New(opener bool, conn, first, room int) (*End, api.Errno) {
	return attempt(func() *End {
		refuse(!isNumber(conn) || !isNumber(first) || !within(room, leastRoom, mostWindow), api.ErrRange)
		return &End{
			outgoing: outgoing{first: first, limit: firstLimit, others: api.MaxBody, body: api.MaxBody, out: firstOut, told: nothing()},
			incoming: incoming{room: room, kept: map[int]arrived{}},
			opener:   opener, conn: conn,
		}
	})
}

// nothing is what is told when nothing happened.
func nothing() told { return told{trip: -1, tripOf: -1} }

func (x *End) ask() { refuse(x == nil || x.kept == nil, api.ErrInvalid) }

func (x *End) askTime(now int) { refuse(!within(now, x.now, api.MaxTime), api.ErrRange) }

// does runs what an end does at a time.
func (x *End) does(now int, valid bool, f func()) api.Errno {
	_, e := attempt(func() bool {
		x.ask()
		refuse(!valid, api.ErrInvalid)
		x.askTime(now)
		f()
		x.now = now
		return true
	})
	return e
}

// Open begins to open.
func (x *End) Open(now int) api.Errno {
	return x.does(now, true, func() {
		refuse(!x.opener || x.state != begun, api.ErrState)
		x.state = opening
		x.add(api.FOpen, "")
	})
}

// Write puts a text behind what waits.
func (x *End) Write(now int, text string) api.Errno {
	return x.does(now, len(text) <= api.MaxText, func() {
		refuse(x.state != opening && x.state != open || x.closing, api.ErrState)
		refuse(x.waiting()+len(text) > mostWaiting, api.ErrLimit)
		for text != "" {
			n := min(x.body, len(text))
			x.add(api.FData, text[:n])
			text = text[n:]
		}
	})
}

// Read returns what was passed, at most so many bytes.
func (x *End) Read(most int) (string, api.Errno) {
	return attempt(func() string {
		x.ask()
		refuse(most < 0, api.ErrRange)
		refuse(x.passed == "" && (x.ended || x.state == reset), api.ErrNone)
		n := min(most, len(x.passed))
		s := x.passed[:n]
		x.passed = x.passed[n:]
		return s
	})
}

// Close writes the end behind all data.
func (x *End) Close(now int) api.Errno {
	return x.does(now, true, func() {
		refuse(x.state != opening && x.state != open || x.closing, api.ErrState)
		x.closing = true
		x.add(api.FEnd, "")
	})
}

// Reset resets the end.
func (x *End) Reset() api.Errno {
	_, e := attempt(func() bool {
		x.ask()
		refuse(x.state == closed || x.state == reset, api.ErrState)
		x.fall(true)
		return true
	})
	return e
}

// fall makes the end reset; tell says whether a reset is to be sent.
func (x *End) fall(tell bool) {
	x.state = reset
	x.resets = tell
	x.due = false
	x.forget()
}

// takers are the ways in which packets are taken, by their kinds.
func takers() [6]func(x *End, p api.Segment) {
	return [6]func(x *End, p api.Segment){
		api.FOpen: (*End).takeOpen, api.FData: (*End).takeData, api.FState: (*End).takeState, api.FEnd: (*End).takeData, api.FReset: (*End).takeReset,
	}
}

// Take takes packets that came.
func (x *End) Take(now int, l []api.Segment) api.Errno {
	valid := true
	for _, p := range l {
		valid = valid && Valid(p)
	}
	return x.does(now, valid, func() {
		x.now = now
		for _, p := range l {
			if p.Conn == x.conn {
				x.take1(p)
			}
		}
	})
}

// take1 takes a packet of this connection.
func (x *End) take1(p api.Segment) {
	if x.state == reset {
		return
	}
	x.heard = true
	x.time = p.Time
	x.others = p.Window
	takers()[p.Kind](x, p)
	x.finish()
}

// finish closes the end if both ends were told, and all is acknowledged.
func (x *End) finish() {
	if x.state == ending && x.ended && len(x.sent) == 0 {
		x.state = closed
	}
}

func (x *End) takeOpen(p api.Segment) {
	if x.opener {
		return
	}
	if x.state == begun {
		x.state = open
		x.came, x.last = true, p.Seq
	}
	x.due = true
}

// talked notes that the other end sends more than an open.
func (x *End) talked(p api.Segment) {
	x.incoming.talked = true
	x.ack(x.now, p.Ack, p.Marks)
}

func (x *End) takeData(p api.Segment) {
	switch x.state {
	case begun:
		x.resets = true
	case open, ending:
		x.talked(p)
		x.incoming.take(p)
	case closed:
		x.due = true
		x.doubles++
	}
}

func (x *End) takeState(p api.Segment) {
	switch x.state {
	case begun:
		x.resets = true
	case opening:
		if x.next > 0 && p.Ack == x.first {
			x.state = open
			x.came, x.last = true, turn(p.Seq-1)
			x.due = true
			x.talked(p)
		}
	case open, ending:
		x.talked(p)
	}
}

func (x *End) takeReset(api.Segment) {
	if x.state != begun && x.state != closed {
		x.fall(false)
	}
}

// segment is a packet as it goes now.
func (x *End) segment(now, kind, seq int, body string) api.Segment {
	p := api.Segment{Kind: kind, Conn: x.conn, Seq: seq, Window: x.window(), Body: body, Time: now & most32}
	p.Ack, p.Marks = x.ackNow()
	if x.heard {
		p.Late = (now - x.time) & most32
	}
	return p
}

// goAgain sends what goes again, as far as the limit lets it; false if not all of it went.
func (x *End) goAgain(now int) (out []api.Segment, all bool) {
	for p := range x.way(false) {
		if !x.fits(p.body) {
			return out, false
		}
		x.goes(p, now)
		x.againCount++
		out = append(out, x.segment(now, p.kind, x.number(p.serial), p.body))
	}
	return out, true
}

// mayGo reports whether a new packet of a kind may be sent in this state.
func (x *End) mayGo(kind int) bool {
	if kind == api.FOpen {
		return true
	}
	return (x.state == open || x.state == ending) && (x.opener || x.incoming.talked)
}

// goNew sends new packets, as far as the limit lets them.
func (x *End) goNew(now int) []api.Segment {
	var out []api.Segment
	for len(x.fresh) > 0 && x.mayGo(x.fresh[0].kind) && x.fits(x.fresh[0].body) {
		p := &packet{}
		*p = x.fresh[0]
		x.fresh = x.fresh[1:]
		x.freshBytes -= len(p.body)
		p.serial = x.next
		x.next++
		x.sentCount++
		x.goes(p, now)
		x.sent = append(x.sent, p)
		out = append(out, x.segment(now, p.kind, x.number(p.serial), p.body))
		if p.kind == api.FEnd {
			x.state = ending
		}
	}
	return out
}

// send is what the end sends at a time.
func (x *End) send(now int) []api.Segment {
	if x.late(now) {
		x.fall(true)
	}
	var out []api.Segment
	if x.resets {
		x.resets = false
		out = append(out, x.segment(now, api.FReset, x.number(x.next), ""))
	}
	again, all := x.goAgain(now)
	out = append(out, again...)
	if all {
		out = append(out, x.goNew(now)...)
	}
	if len(out) == 0 && x.due {
		out = append(out, x.segment(now, api.FState, x.number(x.next), ""))
	}
	x.due = false
	return out
}

// Send returns what the end sends now.
func (x *End) Send(now int) ([]api.Segment, api.Errno) {
	var out []api.Segment
	e := x.does(now, true, func() { out = x.send(now) })
	return out, e
}
