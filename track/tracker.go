package track

import (
	"iter"
	"maps"
	"slices"
	"strconv"

	"covey/addr"
	"covey/api"
	"covey/hash"
)

const (
	mostKnown  = 1000
	mostSeed   = 100
	likedWant  = 50
	minute     = 60000
	mostNumber = 1000000000
)

// teller is a peer as it told last; done tells that it was counted.
type teller struct {
	addr api.Addr
	left int
	last int
	done bool
}

// content is what is known under a name.
type content struct {
	peers map[string]teller
	done  int
}

// Tracker knows who has what.
type Tracker struct {
	seed     string
	interval int
	now      int
	asked    int
	names    map[string]*content
}

// New makes a tracker.
func New(seed string, interval int) (*Tracker, api.Errno) {
	return attempt(func() *Tracker {
		refuse(len(seed) > mostSeed, api.ErrInvalid)
		refuse(!within(interval, 1, mostInterval), api.ErrRange)
		return &Tracker{seed: seed, interval: interval, names: map[string]*content{}}
	})
}

func (t *Tracker) ask() { refuse(t == nil || t.names == nil, api.ErrInvalid) }

func (t *Tracker) askTime(now int) {
	refuse(now < 0 || now > api.MaxTime || now < t.now, api.ErrRange)
}

// gone reports whether a peer has not told for too long.
func (t *Tracker) gone(p teller, now int) bool { return now-p.last > 2*t.interval*1000 }

// tell sets the time, and takes out who is gone.
func (t *Tracker) tell(now int) {
	t.now = now
	maps.DeleteFunc(t.names, func(_ string, c *content) bool {
		maps.DeleteFunc(c.peers, func(_ string, p teller) bool { return t.gone(p, now) })
		return len(c.peers) == 0 && c.done == 0
	})
}

// live is how many of a name's peers are not gone at a time.
func (t *Tracker) live(c *content, now int) int {
	n := 0
	for _, p := range c.peers {
		if !t.gone(p, now) {
			n++
		}
	}
	return n
}

// askRoom asks whether there is room for the one that announces.
func (t *Tracker) askRoom(now int, a api.Announce) {
	if a.Event == api.EStopped {
		return
	}
	if c := t.names[a.Name]; c != nil {
		n := t.live(c, now)
		p, in := c.peers[a.Peer]
		refuse(n >= mostKnown && !(in && !t.gone(p, now)), api.ErrLimit)
		if n > 0 || c.done > 0 {
			return
		}
	}
	if len(t.names) < mostKnown {
		return
	}
	n := 0
	for _, c := range t.names {
		if c.done > 0 || t.live(c, now) > 0 {
			n++
		}
	}
	refuse(n >= mostKnown, api.ErrLimit)
}

// note takes what a peer tells.
func (t *Tracker) note(a api.Announce) {
	c := t.names[a.Name]
	if a.Event == api.EStopped {
		if c == nil {
			return
		}
		delete(c.peers, a.Peer)
		if len(c.peers) == 0 && c.done == 0 {
			delete(t.names, a.Name)
		}
		return
	}
	if c == nil {
		c = &content{peers: map[string]teller{}}
		t.names[a.Name] = c
	}
	p := teller{addr: a.Addr, left: a.Left, last: t.now, done: c.peers[a.Peer].done}
	if a.Event == api.EDone && a.Left == 0 && !p.done {
		p.done = true
		c.done++
	}
	c.peers[a.Peer] = p
}

// drawn yields the peers of a name in the order of an asking.
func (t *Tracker) drawn(c *content) iter.Seq2[string, teller] {
	return func(yield func(string, teller) bool) {
		by := map[string]string{}
		for name := range c.peers {
			by[hash.Old(t.seed+strconv.Itoa(t.asked)+name)] = name
		}
		for _, digest := range slices.Sorted(maps.Keys(by)) {
			if name := by[digest]; !yield(name, c.peers[name]) {
				return
			}
		}
	}
}

// count counts the peers of a name.
func (c *content) count() api.Scraped {
	if c == nil {
		return api.Scraped{}
	}
	s := api.Scraped{Done: c.done}
	for _, p := range c.peers {
		if p.left == 0 {
			s.Seeds++
		} else {
			s.Others++
		}
	}
	return s
}

// chosen are the addresses that an announce is answered with.
func (t *Tracker) chosen(a api.Announce) []api.Addr {
	most := a.Want
	if most < 0 || most > likedWant {
		most = likedWant
	}
	c := t.names[a.Name]
	var out []api.Addr
	if c == nil || a.Event == api.EStopped {
		return out
	}
	for name, p := range t.drawn(c) {
		if len(out) == most {
			break
		}
		if name != a.Peer && (a.Left > 0 || p.left > 0) {
			out = append(out, p.addr)
		}
	}
	return out
}

// announce takes an announce, if there is room.
func (t *Tracker) announce(now int, a api.Announce) api.Answer {
	t.askRoom(now, a)
	t.tell(now)
	t.asked++
	t.note(a)
	s := t.names[a.Name].count()
	return api.Answer{Interval: t.interval, Seeds: s.Seeds, Others: s.Others, Peers: t.chosen(a)}
}

// Announce takes an announce.
func (t *Tracker) Announce(now int, a api.Announce) (api.Answer, api.Errno) {
	return attempt(func() api.Answer {
		t.ask()
		refuse(!ValidAnnounce(a), api.ErrInvalid)
		t.askTime(now)
		return t.announce(now, a)
	})
}

// scrape counts the peers of names.
func (t *Tracker) scrape(names []string) []api.Scraped {
	var out []api.Scraped
	for _, n := range names {
		out = append(out, t.names[n].count())
	}
	return out
}

// Scrape tells of names.
func (t *Tracker) Scrape(now int, names []string) ([]api.Scraped, api.Errno) {
	return attempt(func() []api.Scraped {
		t.ask()
		askNameSizes(names)
		t.askTime(now)
		askNumber(names)
		askOnce(names)
		t.tell(now)
		return t.scrape(names)
	})
}

// Peers returns the peers of a name.
func (t *Tracker) Peers(name string) []string {
	if t == nil || t.names[name] == nil {
		return nil
	}
	return slices.Sorted(maps.Keys(t.names[name].peers))
}

// Names returns the names that have a peer or a done one.
func (t *Tracker) Names() []string {
	if t == nil {
		return nil
	}
	return slices.Sorted(maps.Keys(t.names))
}

// conn is the number that a packet from an address must have in a minute.
func (t *Tracker) conn(k int, a api.Addr) int {
	return must(hash.Draw(t.seed+" "+must(addr.Pack(a)), k, mostNumber))
}

// Connect returns the number that a packet from an address must have.
func (t *Tracker) Connect(now int, a api.Addr) (int, api.Errno) {
	return attempt(func() int {
		t.ask()
		refuse(!addr.Valid(a), api.ErrInvalid)
		t.askTime(now)
		t.tell(now)
		return t.conn(now/minute, a)
	})
}

// holds reports whether a connection's number holds for an address.
func (t *Tracker) holds(conn int, a api.Addr) bool {
	k := t.now / minute
	return conn == t.conn(k, a) || k > 0 && conn == t.conn(k-1, a)
}

// packets is the second wire of a tracker, with the one from whom a packet came.
type packets struct {
	*Tracker
	from api.Addr
}

// numberOf is the number with which bytes that are no packet are answered.
func numberOf(bytes string) int {
	if len(bytes) < 16 {
		return 0
	}
	r := &reader{s: bytes[12:16]}
	if n := r.wide(4); n <= mostID {
		return int(n)
	}
	return 0
}

func failed(number int, text string) api.Packet {
	return api.Packet{Kind: api.KError, Number: number, Error: text}
}

// readable reports whether bytes are a packet that is answered as it asks.
func readable(bytes string) (api.Packet, bool) {
	p, _, e := Decode(bytes, true, 4)
	if e != api.OK {
		return p, false
	}
	_, e = attempt(func() bool {
		askOnce(p.Names)
		return true
	})
	return p, e == api.OK
}

// answer answers bytes.
func (w packets) answer(bytes string) api.Packet {
	p, ok := readable(bytes)
	if !ok {
		return failed(numberOf(bytes), "bad packet")
	}
	out := api.Packet{Kind: p.Kind, Number: p.Number}
	if p.Kind == api.KConnect {
		out.Conn = w.conn(w.now/minute, w.from)
		return out
	}
	if !w.holds(p.Conn, w.from) {
		return failed(p.Number, "bad connection")
	}
	if p.Kind == api.KScrape {
		out.Scraped = w.scrape(p.Names)
		return out
	}
	a, e := attempt(func() api.Answer { return w.announce(w.now, p.Announce) })
	if e != api.OK {
		return failed(p.Number, "full")
	}
	out.Family = w.from.Family
	a.Peers = slices.DeleteFunc(a.Peers, func(x api.Addr) bool { return x.Family != w.from.Family })
	out.Answer = a
	return out
}

// Packet answers a packet of the second wire.
func (t *Tracker) Packet(now int, from api.Addr, bytes string) (string, api.Errno) {
	return attempt(func() string {
		t.ask()
		refuse(!addr.Valid(from), api.ErrInvalid)
		askLong(bytes)
		t.askTime(now)
		t.tell(now)
		return encode(packets{t, from}.answer(bytes))
	})
}

// texts is the first wire of a tracker.
type texts struct{ *Tracker }

// answer answers a text.
func (w texts) answer(text string) string {
	if names, e := Scraped(text); e == api.OK {
		return must(TellScrape(names, w.scrape(names)))
	}
	a, e := Asked(text)
	if e != api.OK {
		return tell(api.Answer{Failure: "bad request"})
	}
	out, e := attempt(func() api.Answer { return w.announce(w.now, a) })
	if e != api.OK {
		return tell(api.Answer{Failure: "full"})
	}
	return tell(out)
}

// Text answers a text of the first wire.
func (t *Tracker) Text(now int, text string) (string, api.Errno) {
	return attempt(func() string {
		t.ask()
		askLong(text)
		t.askTime(now)
		t.tell(now)
		return texts{t}.answer(text)
	})
}
