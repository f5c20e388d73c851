package extend

import (
	"slices"

	"covey/addr"
	"covey/api"
)

const (
	mostGossip = 50
	mostKnown  = 200
	tellEvery  = 60
	hearEvery  = 50
	seedFlag   = 2
)

// validPeer reports whether an address may be gossiped about.
func validPeer(a api.Addr) bool {
	k, e := addr.Kind(a)
	return e == api.OK && (k == api.APublic || k == api.ANear)
}

func validPeers(l []api.Addr) bool {
	met := map[api.Addr]bool{}
	for _, a := range l {
		if !validPeer(a) || met[a] {
			return false
		}
		met[a] = true
	}
	return len(l) <= mostGossip
}

// ValidGossip reports whether a message of peer exchange is valid.
func ValidGossip(g api.Gossip) bool {
	return validPeers(g.Added) && validPeers(g.Dropped) && len(g.Seeds) == len(g.Added)
}

// Gossip writes a message of peer exchange.
func Gossip(g api.Gossip) (string, api.Errno) {
	return attempt(func() string {
		refuse(!ValidGossip(g), api.ErrInvalid)
		d := &dict{}
		for family, suffix := range families() {
			flags := ""
			for i, a := range g.Added {
				if a.Family == family {
					flags += flagOf(g.Seeds[i])
				}
			}
			d.text("added"+suffix, must(addr.PackAll(g.Added, family)))
			d.text("added"+suffix+".f", flags)
			d.text("dropped"+suffix, must(addr.PackAll(g.Dropped, family)))
		}
		return d.format()
	})
}

// families yields the families with what stands behind their keys.
func families() func(yield func(int, string) bool) {
	return func(yield func(int, string) bool) {
		if yield(4, "") {
			yield(6, "6")
		}
	}
}

func flagOf(seed bool) string {
	if seed {
		return string([]byte{seedFlag})
	}
	return "\x00"
}

func unpack(v api.Value, key string, family int) []api.Addr {
	l, e := addr.UnpackAll(text(v, key), family)
	refuse(e != api.OK, api.ErrData)
	return l
}

// ReadGossip reads a message of peer exchange.
func ReadGossip(s string) (api.Gossip, api.Errno) {
	return attempt(func() api.Gossip {
		v := parse(s)
		var g api.Gossip
		for family, suffix := range families() {
			added := unpack(v, "added"+suffix, family)
			flags := text(v, "added"+suffix+".f")
			refuse(len(flags) != len(added), api.ErrData)
			for i := range len(flags) {
				refuse(flags[i]&^seedFlag != 0, api.ErrData)
				g.Seeds = append(g.Seeds, flags[i] == seedFlag)
			}
			g.Added = append(g.Added, added...)
			g.Dropped = append(g.Dropped, unpack(v, "dropped"+suffix, family)...)
		}
		refuse(!ValidGossip(g), api.ErrData)
		return g
	})
}

// clock keeps the last time that was told, and that of the last message (-1: none).
type clock struct{ now, last int }

func (c clock) askTime(now int) {
	refuse(now < 0 || now > api.MaxTime || now < c.now, api.ErrRange)
}

// soon reports whether less than some time has gone since the last message.
func (c clock) soon(now, every int) bool { return c.last >= 0 && now-c.last < every }

// Teller tells what changed among the peers.
type Teller struct {
	clock
	told []api.Addr
}

// NewTeller makes a teller that told nothing.
func NewTeller() *Teller { return &Teller{clock: clock{last: -1}} }

// less returns what a sorted list has that another one has not, at most so many.
func less[T any](a, b []T, order func(x, y T) int, most int) []T {
	var out []T
	k := 0
	for _, x := range a {
		for k < len(b) && order(b[k], x) < 0 {
			k++
		}
		if k < len(b) && order(b[k], x) == 0 {
			continue
		}
		if len(out) < most {
			out = append(out, x)
		}
	}
	return out
}

func compare(a, b api.Addr) int { return must(addr.Compare(a, b)) }

// news is what a teller tells.
type news struct {
	g   api.Gossip
	due bool
}

// Tell tells what the peers have more and less than what was told so far.
func (t *Teller) Tell(now int, peers []api.Addr, seeds []bool) (g api.Gossip, due bool, e api.Errno) {
	n, e := attempt(func() news {
		refuse(t == nil, api.ErrInvalid)
		for _, a := range peers {
			refuse(!validPeer(a), api.ErrInvalid)
		}
		t.askTime(now)
		refuse(len(seeds) != len(peers), api.ErrSize)
		sorted := must(addr.Sort(peers))
		refuse(len(sorted) != len(peers), api.ErrDuplicate)
		t.now = now
		added := less(sorted, t.told, compare, mostGossip)
		dropped := less(t.told, sorted, compare, mostGossip)
		if t.soon(now, tellEvery) || len(added)+len(dropped) == 0 {
			return news{}
		}
		t.last = now
		t.told = must(addr.Sort(append(less(t.told, dropped, compare, len(t.told)), added...)))
		out := api.Gossip{Added: added, Dropped: dropped}
		for _, a := range added {
			out.Seeds = append(out.Seeds, seeds[slices.Index(peers, a)])
		}
		return news{out, true}
	})
	return n.g, n.due, e
}

// Hearer hears what a teller tells.
type Hearer struct {
	clock
	known map[api.Addr]bool
}

// NewHearer makes a hearer that knows nobody.
func NewHearer() *Hearer { return &Hearer{clock: clock{last: -1}, known: map[api.Addr]bool{}} }

// Hear takes a message, and returns the addresses that are new.
func (h *Hearer) Hear(now int, g api.Gossip) ([]api.Addr, api.Errno) {
	return attempt(func() []api.Addr {
		refuse(h == nil || h.known == nil || !ValidGossip(g), api.ErrInvalid)
		h.askTime(now)
		h.now = now
		refuse(h.soon(now, hearEvery), api.ErrState)
		h.last = now
		var out []api.Addr
		for _, a := range g.Added {
			if !h.known[a] && len(h.known) < mostKnown {
				h.known[a] = true
				out = append(out, a)
			}
		}
		for _, a := range g.Dropped {
			delete(h.known, a)
		}
		return slices.DeleteFunc(out, func(a api.Addr) bool { return !h.known[a] })
	})
}

// Known returns the known addresses.
func (h *Hearer) Known() []api.Addr {
	if h == nil {
		return nil
	}
	var out []api.Addr
	for a := range h.known {
		out = append(out, a)
	}
	slices.SortFunc(out, compare)
	return out
}
