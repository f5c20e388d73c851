package track

import (
	"strings"

	"covey/addr"
	"covey/api"
)

const (
	magic   = "covey\x00\x00\x01"
	mostID  = 1000000000
	anyWant = 1<<32 - 1
)

func validAddrs(l []api.Addr, family int) bool {
	for _, a := range l {
		if a.Family != family {
			return false
		}
	}
	return family == 4 || family == 6
}

func validNames(l []string) bool {
	for _, n := range l {
		if len(n) != api.OldSize {
			return false
		}
	}
	return within(len(l), 1, mostNames)
}

func validCounts(l []api.Scraped) bool {
	for _, s := range l {
		if !validScraped(s) {
			return false
		}
	}
	return within(len(l), 1, mostNames)
}

func noAnswer(a api.Answer) bool {
	return a.Interval == 0 && a.Seeds == 0 && a.Others == 0 && len(a.Peers) == 0 && a.Failure == ""
}

// has are the parts that a packet of a kind has.
type has struct{ conn, announce, names, answer, scraped, text bool }

func parts(p api.Packet) (has, bool) {
	if p.Ask {
		switch p.Kind {
		case api.KConnect:
			return has{}, true
		case api.KAnnounce:
			return has{conn: true, announce: true}, true
		case api.KScrape:
			return has{conn: true, names: true}, true
		}
		return has{}, false
	}
	switch p.Kind {
	case api.KConnect:
		return has{conn: true}, true
	case api.KAnnounce:
		return has{answer: true}, true
	case api.KScrape:
		return has{scraped: true}, true
	case api.KError:
		return has{text: true}, true
	}
	return has{}, false
}

// part reports whether a part is right if there must be one, and zero otherwise.
func part(has, right, zero bool) bool { return has && right || !has && zero }

// ValidPacket reports whether a packet has just what its kind has.
func ValidPacket(p api.Packet) bool {
	h, ok := parts(p)
	return ok && within(p.Number, 0, mostID) &&
		part(h.conn, within(p.Conn, 0, mostID), p.Conn == 0) &&
		part(h.announce, ValidAnnounce(p.Announce), p.Announce == (api.Announce{})) &&
		part(h.names, validNames(p.Names), len(p.Names) == 0) &&
		part(h.answer, ValidAnswer(p.Answer) && p.Answer.Failure == "" && validAddrs(p.Answer.Peers, p.Family), noAnswer(p.Answer) && p.Family == 0) &&
		part(h.scraped, validCounts(p.Scraped), len(p.Scraped) == 0) &&
		part(h.text, within(len(p.Error), 1, mostReason), p.Error == "")
}

// put writes a number in so many bytes.
func put(n, size int) string {
	b := make([]byte, size)
	for i := range b {
		b[i] = byte(n >> (8 * (size - 1 - i)))
	}
	return string(b)
}

func putAnnounce(a api.Announce) string {
	return a.Name + a.Peer + put(a.Down, 8) + put(a.Left, 8) + put(a.Up, 8) + put(a.Event, 4) +
		put(a.Addr.Family, 1) + must(addr.Pack(a.Addr)) + put(a.Want&anyWant, 4)
}

// encode writes a valid packet.
func encode(p api.Packet) string {
	head := put(p.Kind, 4) + put(p.Number, 4)
	if p.Ask {
		switch p.Kind {
		case api.KConnect:
			return magic + head
		case api.KAnnounce:
			return put(p.Conn, 8) + head + putAnnounce(p.Announce)
		}
		return put(p.Conn, 8) + head + strings.Join(p.Names, "")
	}
	switch p.Kind {
	case api.KConnect:
		return head + put(p.Conn, 8)
	case api.KAnnounce:
		a := p.Answer
		return head + put(a.Interval, 4) + put(a.Others, 4) + put(a.Seeds, 4) + must(addr.PackAll(a.Peers, p.Family))
	case api.KScrape:
		for _, s := range p.Scraped {
			head += put(s.Seeds, 4) + put(s.Done, 4) + put(s.Others, 4)
		}
		return head
	}
	return head + p.Error
}

// Encode writes a packet.
func Encode(p api.Packet) (string, api.Errno) {
	return attempt(func() string {
		refuse(!ValidPacket(p), api.ErrInvalid)
		return encode(p)
	})
}

// stop is what leaves a reader of packets: the first wrong byte.
type stop struct{ at int }

// reader reads a packet field by field.
type reader struct {
	s      string
	at     int
	family int
	p      api.Packet
}

func (r *reader) left() int { return len(r.s) - r.at }

// bytes takes so many bytes.
func (r *reader) bytes(n int) string {
	if r.left() < n {
		panic(stop{len(r.s)})
	}
	r.at += n
	return r.s[r.at-n : r.at]
}

// wide takes a number of so many bytes.
func (r *reader) wide(size int) uint64 {
	s := r.bytes(size)
	n := uint64(0)
	for i := range size {
		n = n<<8 | uint64(s[i])
	}
	return n
}

// number takes a number within bounds.
func (r *reader) number(size, least, most int) int {
	from := r.at
	n := r.wide(size)
	if n < uint64(least) || n > uint64(most) {
		panic(stop{from})
	}
	return int(n)
}

// addr takes an address of a family.
func (r *reader) addr(family int) api.Addr {
	size := 4
	if family == 6 {
		size = 16
	}
	a := api.Addr{Family: family, IP: r.bytes(size)}
	a.Port = r.number(2, 1, 65535)
	return a
}

func (r *reader) family1() int {
	from := r.at
	n := int(r.wide(1))
	if n != 4 && n != 6 {
		panic(stop{from})
	}
	return n
}

func (r *reader) want() int {
	from := r.at
	n := r.wide(4)
	if n == anyWant {
		return -1
	}
	if n > mostWant {
		panic(stop{from})
	}
	return int(n)
}

func (r *reader) askedConnect() {}

func (r *reader) askedAnnounce() {
	a := &r.p.Announce
	a.Name = r.bytes(api.OldSize)
	a.Peer = r.bytes(api.OldSize)
	a.Down = r.number(8, 0, mostBytes)
	a.Left = r.number(8, 0, mostBytes)
	a.Up = r.number(8, 0, mostBytes)
	a.Event = r.number(4, api.ENone, api.EDone)
	a.Addr = r.addr(r.family1())
	a.Want = r.want()
}

func (r *reader) askedScrape() {
	for first := true; first || r.left() > 0 && len(r.p.Names) < mostNames; first = false {
		r.p.Names = append(r.p.Names, r.bytes(api.OldSize))
	}
}

func (r *reader) toldConnect() { r.p.Conn = r.number(8, 0, mostID) }

func (r *reader) toldAnnounce() {
	a := &r.p.Answer
	r.p.Family = r.family
	a.Interval = r.number(4, 1, mostInterval)
	a.Others = r.number(4, 0, mostCount)
	a.Seeds = r.number(4, 0, mostCount)
	for r.left() > 0 && len(a.Peers) < mostPeers {
		a.Peers = append(a.Peers, r.addr(r.family))
	}
}

func (r *reader) toldScrape() {
	for first := true; first || r.left() > 0 && len(r.p.Scraped) < mostNames; first = false {
		var s api.Scraped
		s.Seeds = r.number(4, 0, mostScraped)
		s.Done = r.number(4, 0, mostScraped)
		s.Others = r.number(4, 0, mostScraped)
		r.p.Scraped = append(r.p.Scraped, s)
	}
}

func (r *reader) toldError() { r.p.Error = r.bytes(max(1, min(mostReason, r.left()))) }

// asked reads a packet that asks.
func (r *reader) asked() {
	readers := [3]func(){r.askedConnect, r.askedAnnounce, r.askedScrape}
	r.p.Ask = true
	least, most := api.KAnnounce, api.KScrape
	if strings.HasPrefix(r.s, magic) {
		r.at = len(magic)
		least, most = api.KConnect, api.KConnect
	} else {
		r.p.Conn = r.number(8, 0, mostID)
	}
	r.p.Kind = r.number(4, least, most)
	r.p.Number = r.number(4, 0, mostID)
	readers[r.p.Kind]()
}

// told reads a packet that answers.
func (r *reader) told() {
	readers := [4]func(){r.toldConnect, r.toldAnnounce, r.toldScrape, r.toldError}
	r.p.Kind = r.number(4, api.KConnect, api.KError)
	r.p.Number = r.number(4, 0, mostID)
	readers[r.p.Kind]()
}

// Decode reads a packet that asks or answers; at is the first byte that is wrong.
func Decode(bytes string, ask bool, family int) (p api.Packet, at int, e api.Errno) {
	if len(bytes) > api.MaxText {
		return api.Packet{}, 0, api.ErrLong
	}
	if family != 4 && family != 6 {
		return api.Packet{}, 0, api.ErrRange
	}
	defer func() {
		if x := recover(); x != nil {
			p, at, e = api.Packet{}, 0, api.ErrData
			if told, ok := x.(stop); ok {
				at = told.at
			}
		}
	}()
	r := &reader{s: bytes, family: family}
	if ask {
		r.asked()
	} else {
		r.told()
	}
	if r.left() > 0 {
		panic(stop{r.at})
	}
	return r.p, 0, api.OK
}
