package veil

import (
	"covey/api"
	"covey/sign"
)

// stages are what the one that answers goes through.
func (a *Answerer) stages() []func() bool {
	all := [10]func() bool{a.key, a.seek, a.known, a.zero, a.offered, a.padSize, a.pad, a.size, a.payload, a.data}
	return all[:]
}

// key takes the other's key, and sends the own one.
func (a *Answerer) key() bool {
	if !a.heard() {
		return false
	}
	a.sought = mark(a.shared)
	a.out += must(sign.Key(a.secret)) + a.pads[0]
	return true
}

// known takes the name that the other one means.
func (a *Answerer) known() bool {
	s, ok := a.use(api.OldSize)
	if !ok {
		return false
	}
	for _, name := range a.names {
		if meant(a.shared, name) == s {
			a.name = name
			a.mine, a.others = stream('B', a.shared, name), stream('A', a.shared, name)
			return true
		}
	}
	panic(api.ErrData)
}

// zero takes the zero bytes, one by one.
func (a *Answerer) zero() bool {
	for a.zeros < zeroSize {
		s, ok := a.read(1)
		if !ok {
			return false
		}
		refuse(s[0] != 0, api.ErrData)
		a.zeros++
	}
	return true
}

// offered takes what the other one offers.
func (a *Answerer) offered() bool {
	s, ok := a.read(1)
	if ok {
		refuse(s[0] < plain || s[0] > either, api.ErrData)
		a.offer = int(s[0])
	}
	return ok
}

// size takes the payload's length, chooses, and sends the fourth step.
func (a *Answerer) size() bool {
	s, ok := a.read(2)
	if !ok {
		return false
	}
	a.left = int(s[0])<<8 | int(s[1])
	refuse(a.left > mostPayload, api.ErrData)
	a.chosen = a.offer
	if a.offer == either {
		a.chosen = plain
		if a.masked {
			a.chosen = masked
		}
	}
	a.out += a.mine(zeros() + string([]byte{byte(a.chosen), byte(len(a.pads[1]))}) + a.pads[1])
	return true
}

// payload takes the first payload, which is always masked.
func (a *Answerer) payload() bool {
	s, ok := a.read(a.left)
	if ok {
		a.taken = s
		a.state = inStep
	}
	return ok
}

// Out takes the bytes that are to be sent now.
func (a *Answerer) Out() string {
	if a == nil {
		return ""
	}
	return a.takeOut()
}

// Feed takes bytes that came.
func (a *Answerer) Feed(s string) api.Errno {
	_, e := attempt(func() bool {
		askFeed(s, a != nil && a.secret != 0)
		a.feed(s, a.stages())
		return true
	})
	return e
}

// State tells whether the end is at work, in step, or wrong.
func (a *Answerer) State() int {
	if a == nil {
		return 0
	}
	return a.state
}

// Chosen is what was chosen.
func (a *Answerer) Chosen() int {
	if a == nil {
		return 0
	}
	return a.chosen
}

// Name is the name that the other one meant.
func (a *Answerer) Name() (string, api.Errno) {
	if a == nil {
		return "", api.ErrInvalid
	}
	if a.name == "" {
		return "", api.ErrState
	}
	return a.name, api.OK
}

// Send masks what is to be sent.
func (a *Answerer) Send(s string) (string, api.Errno) {
	return attempt(func() string {
		askFeed(s, a != nil)
		return a.send(s)
	})
}

// Take takes what has come.
func (a *Answerer) Take() string {
	if a == nil {
		return ""
	}
	return a.take()
}
