package flow

import "covey/api"

// When returns when the next time out is.
func (x *End) When() (int, api.Errno) {
	return attempt(func() int {
		x.ask()
		t, some := x.earliest()
		refuse(!some, api.ErrNone)
		return t + x.timeOut() + 1
	})
}

// set sets a number within bounds.
func (x *End) set(n, least, most int, to func()) api.Errno {
	_, e := attempt(func() bool {
		x.ask()
		refuse(!within(n, least, most), api.ErrRange)
		to()
		return true
	})
	return e
}

// Limit sets how many bytes may be under way.
func (x *End) Limit(bytes int) api.Errno {
	return x.set(bytes, 1, mostLimit, func() { x.limit = bytes })
}

// Body sets the size of bodies.
func (x *End) Body(bytes int) api.Errno {
	return x.set(bytes, 1, api.MaxBody, func() { x.body = bytes })
}

// Out sets the time out.
func (x *End) Out(ms int) api.Errno {
	return x.set(ms, leastOut, mostOut, func() { x.out = ms })
}

// State returns the end's state.
func (x *End) State() int {
	if x == nil {
		return 0
	}
	return x.state
}

// Under returns what is under way.
func (x *End) Under() (packets, bytes int) {
	if x == nil {
		return 0, 0
	}
	return x.underCount, x.underBytes
}

// Waiting returns how many bytes were not sent yet.
func (x *End) Waiting() int {
	if x == nil {
		return 0
	}
	return x.waiting()
}

// Ready returns how many bytes may be read.
func (x *End) Ready() int {
	if x == nil {
		return 0
	}
	return len(x.passed)
}

// Ended reports whether the other's end was passed.
func (x *End) Ended() bool { return x != nil && x.ended }

// Counts returns how many packets were sent, how often some went again, and how many doubles came.
func (x *End) Counts() (sent, again, doubles int) {
	if x == nil {
		return 0, 0, 0
	}
	return x.sentCount, x.againCount, x.doubles
}

// Told returns what happened since it was asked last.
func (x *End) Told() (bytes, lost, outs, trip int) {
	if x == nil {
		return 0, 0, 0, 0
	}
	t := x.told
	x.told = nothing()
	return t.bytes, t.lost, t.outs, t.trip
}
