package extend

import (
	"covey/addr"
	"covey/api"
)

// The codes of errors of punching.
const (
	noPeer      = 1
	notOn       = 2
	noSupport   = 3
	itself      = 4
	leastFamily = 4
)

// ValidPunch reports whether a message of punching is valid.
func ValidPunch(p api.Punch) bool {
	if !addr.Valid(p.Addr) {
		return false
	}
	switch p.Kind {
	case api.PMeet, api.PCall:
		return p.Code == 0
	case api.PError:
		return within(p.Code, noPeer, itself)
	}
	return false
}

// Punch writes a message of punching.
func Punch(p api.Punch) (string, api.Errno) {
	return attempt(func() string {
		refuse(!ValidPunch(p), api.ErrInvalid)
		s := string([]byte{byte(p.Kind), byte((p.Addr.Family - leastFamily) / 2)}) + must(addr.Pack(p.Addr))
		if p.Kind == api.PError {
			s += string([]byte{byte(p.Code)})
		}
		return s
	})
}

// ReadPunch reads a message of punching.
func ReadPunch(s string) (api.Punch, api.Errno) {
	return attempt(func() api.Punch {
		askLong(s)
		refuse(len(s) < 2, api.ErrData)
		p := api.Punch{Kind: int(s[0])}
		pack := s[2:]
		if p.Kind == api.PError {
			refuse(pack == "", api.ErrData)
			p.Code = int(pack[len(pack)-1])
			pack = pack[:len(pack)-1]
		}
		a, e := addr.Unpack(pack)
		refuse(e != api.OK || a.Family != leastFamily+2*int(s[1]), api.ErrData)
		p.Addr = a
		refuse(!ValidPunch(p), api.ErrData)
		return p
	})
}

// state is what a relay knows of a peer.
type state struct{ connected, supports bool }

// Relay knows who is connected with it, and who supports punching.
type Relay struct{ peers map[api.Addr]state }

// NewRelay makes a relay that knows nobody.
func NewRelay() *Relay { return &Relay{peers: map[api.Addr]state{}} }

func (r *Relay) ask(l ...api.Addr) {
	refuse(r == nil || r.peers == nil, api.ErrInvalid)
	for _, a := range l {
		refuse(!addr.Valid(a), api.ErrInvalid)
	}
}

// Set tells the relay about a peer.
func (r *Relay) Set(a api.Addr, connected, supports bool) api.Errno {
	_, e := attempt(func() bool {
		r.ask(a)
		r.peers[a] = state{connected, connected && supports}
		return true
	})
	return e
}

// code is the first code that holds; 0 if none does.
func (r *Relay) code(from, to api.Addr) int {
	there, set := r.peers[to]
	switch {
	case from == to:
		return itself
	case !set:
		return noPeer
	case !there.connected:
		return notOn
	case !there.supports || !r.peers[from].supports:
		return noSupport
	}
	return 0
}

// meeting is what a relay answers.
type meeting struct {
	toFrom, toTo api.Punch
	both         bool
}

// Meet is what the relay answers to one that wants to reach another one.
func (r *Relay) Meet(from, to api.Addr) (toFrom, toTo api.Punch, both bool, e api.Errno) {
	m, e := attempt(func() meeting {
		r.ask(from, to)
		refuse(!r.peers[from].connected, api.ErrState)
		if c := r.code(from, to); c != 0 {
			return meeting{toFrom: api.Punch{Kind: api.PError, Addr: to, Code: c}}
		}
		return meeting{api.Punch{Kind: api.PCall, Addr: to}, api.Punch{Kind: api.PCall, Addr: from}, true}
	})
	return m.toFrom, m.toTo, m.both, e
}
