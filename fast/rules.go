package fast

import (
	"slices"

	"covey/api"
	"covey/bits"
	"covey/wire"
)

// turn is a message that is asked or taken: who sends it, and to whom.
type turn struct {
	s        *Side
	from, to *direction
	m        api.Msg
}

// rule asks whether a message may be sent, and takes it.
type rule struct {
	may func(t turn)
	do  func(t turn)
}

// rules are the rules by the kinds of messages.
func rules() [21]rule {
	free := rule{func(turn) {}, func(turn) {}}
	set := func(do func(d *direction)) rule {
		return rule{func(turn) {}, func(t turn) { do(t.from) }}
	}
	return [21]rule{
		api.MKeep: free, api.MPort: free, api.MExtended: free, api.MAsk: free, api.MHashes: free, api.MRefuse: free,
		api.MChoke:      {func(turn) {}, choke},
		api.MUnchoke:    set(func(d *direction) { d.chokes = false }),
		api.MInterested: set(func(d *direction) { d.wants = true }),
		api.MNot:        set(func(d *direction) { d.wants = false }),
		api.MHave:       {func(turn) {}, func(t turn) { t.from.has[t.m.Index] = true }},
		api.MBits:       {askField, takeField}, api.MAll: {askField, takeField}, api.MNone: {askField, takeField},
		api.MRequest: {askRequest, takeRequest}, api.MPiece: {askPiece, answer}, api.MReject: {askAnswer, answer},
		api.MCancel:  {func(turn) {}, cancel},
		api.MSuggest: {func(t turn) { refuse(!t.from.has[t.m.Index], api.ErrState) }, func(turn) {}},
		api.MAllowed: {func(turn) {}, allow},
	}
}

func isField(kind int) bool { return kind == api.MBits || kind == api.MAll || kind == api.MNone }

// needsFast reports whether messages of a kind exist with fast on alone.
func needsFast(kind int) bool {
	return kind == api.MSuggest || kind == api.MAll || kind == api.MNone || kind == api.MReject || kind == api.MAllowed
}

// askKind asks whether a kind exists, and may be sent first or later.
func (t turn) askKind() {
	k := t.m.Kind
	refuse(needsFast(k) && !t.s.fast, api.ErrKind)
	refuse(isField(k) && t.from.begun, api.ErrKind)
	first := isField(k) || k == api.MKeep || k == api.MExtended
	refuse(t.s.fast && !t.from.begun && !first, api.ErrKind)
}

// check asks a message by all rules, and changes nothing.
func (s *Side) check(out bool, m api.Msg) turn {
	s.ask()
	refuse(!wire.Valid(m), api.ErrInvalid)
	t := turn{s, s.of(out), s.of(!out), m}
	t.askKind()
	refuse(m.Kind == api.MBits && !bits.Valid(s.n, m.Data), api.ErrData)
	refuse(!wire.Fits(m, s.n, s.piece, s.last), api.ErrRange)
	rules()[m.Kind].may(t)
	return t
}

// lets reports whether a sender may send a piece now.
func (d *direction) lets(piece int) bool { return !d.chokes || slices.Contains(d.allowed, piece) }

// drop takes a request out of those that wait.
func (d *direction) drop(c api.Choice) {
	delete(d.waits, c)
	d.order = slices.DeleteFunc(d.order, func(x api.Choice) bool { return x == c })
}

// choice is the block of which a message tells.
func (t turn) choice() api.Choice {
	n := t.m.Length
	if t.m.Kind == api.MPiece {
		n = len(t.m.Data)
	}
	return api.Choice{Piece: t.m.Index, Begin: t.m.Begin, Length: n}
}

func askField(turn) {}

func takeField(t turn) {
	f, _ := wire.Field(t.s.n, t.m)
	l, _ := bits.List(t.s.n, f)
	for _, i := range l {
		t.from.has[i] = true
	}
}

// choke lets requests stay with fast on.
func choke(t turn) {
	t.from.chokes = true
	if !t.s.fast {
		t.from.order = nil
		clear(t.from.waits)
	}
}

// dropped reports whether a request is dropped: with fast off, while the one that is asked chokes.
func (t turn) dropped() bool { return !t.s.fast && t.to.chokes }

func askRequest(t turn) {
	refuse(!t.to.has[t.m.Index], api.ErrState)
	if t.dropped() {
		return
	}
	_, waits := t.to.waits[t.choice()]
	refuse(waits, api.ErrDuplicate)
	refuse(len(t.to.order) >= t.s.queue, api.ErrFull)
}

func takeRequest(t turn) {
	if t.dropped() {
		return
	}
	t.to.waits[t.choice()] = false
	t.to.order = append(t.to.order, t.choice())
}

func askPiece(t turn) {
	refuse(!t.from.lets(t.m.Index), api.ErrState)
	askAnswer(t)
}

// askAnswer asks whether a request waits that is answered.
func askAnswer(t turn) {
	_, waits := t.from.waits[t.choice()]
	refuse(!waits, api.ErrNone)
}

func answer(t turn) { t.from.drop(t.choice()) }

// cancel lets a request stay with fast on: it must still be answered.
func cancel(t turn) {
	c := t.choice()
	if _, waits := t.to.waits[c]; !waits {
		return
	}
	if t.s.fast {
		t.to.waits[c] = true
	} else {
		t.to.drop(c)
	}
}

func allow(t turn) {
	if !slices.Contains(t.from.allowed, t.m.Index) {
		t.from.allowed = append(t.from.allowed, t.m.Index)
	}
}
