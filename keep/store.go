// Package keep has what a node stores: peers, immutable and signed items, and the answers that it gives.
package keep

import (
	"cmp"
	"iter"
	"maps"
	"slices"
	"strconv"
	"strings"

	"covey/addr"
	"covey/api"
	"covey/hash"
	"covey/sign"
)

const (
	most        = 1000
	mostSeed    = 100
	peerLife    = 1800000
	itemLife    = 7200000
	interval    = 21600000
	mostSamples = 20
)

// attempt runs f and tells the Errno that left it by a panic.
func attempt[T any](f func() T) (out T, e api.Errno) {
	defer func() {
		if x := recover(); x != nil {
			var none T
			out, e = none, api.ErrInvalid
			if told, ok := x.(api.Errno); ok {
				e = told
			}
		}
	}()
	return f(), api.OK
}

// refuse leaves by a panic if something is wrong.
func refuse(wrong bool, e api.Errno) {
	if wrong {
		panic(e)
	}
}

// must returns a result, or leaves with its error.
func must[T any](x T, e api.Errno) T {
	refuse(e != api.OK, e)
	return x
}

// peer is what a peer told last, and when.
type peer struct {
	seed bool
	at   int
}

// thing is an item, a signed one or a plain one, and when it was put last.
type thing struct {
	item  api.Item
	plain string
	at    int
}

// stock is what is kept.
type stock struct {
	seed                string
	names, peers, items int
	now                 int
	who                 map[string]map[api.Addr]peer
	things              map[string]thing
}

// Store keeps peers and items.
type Store struct{ *stock }

// New makes a store with room for so many names, peers of each, and items.
func New(seed string, names, peers, items int) (*Store, api.Errno) {
	return attempt(func() *Store {
		refuse(len(seed) > mostSeed, api.ErrInvalid)
		for _, n := range []int{names, peers, items} {
			refuse(n < 1 || n > most, api.ErrRange)
		}
		return &Store{&stock{seed: seed, names: names, peers: peers, items: items, who: map[string]map[api.Addr]peer{}, things: map[string]thing{}}}
	})
}

func (s *Store) ask() { refuse(s == nil || s.stock == nil, api.ErrInvalid) }

func askName(name string) { refuse(len(name) != api.OldSize, api.ErrInvalid) }

func askAddr(a api.Addr) { refuse(!addr.Valid(a), api.ErrInvalid) }

func (s *stock) askTime(now int) {
	refuse(now < 0 || now > api.MaxTime || now < s.now, api.ErrRange)
}

// old returns the function that tells whether what was told at a time is too old.
func old(now, life int) func(at int) bool {
	return func(at int) bool { return now-at > life }
}

// tell sets the time; what is too old is gone.
func (s *stock) tell(now int) {
	s.now = now
	oldPeer, oldItem := old(now, peerLife), old(now, itemLife)
	maps.DeleteFunc(s.who, func(_ string, l map[api.Addr]peer) bool {
		maps.DeleteFunc(l, func(_ api.Addr, p peer) bool { return oldPeer(p.at) })
		return len(l) == 0
	})
	maps.DeleteFunc(s.things, func(_ string, t thing) bool { return oldItem(t.at) })
}

// least returns the one that stands first in an order.
func least[K any](l iter.Seq[K], order func(a, b K) int) K {
	var best K
	first := true
	for k := range l {
		if first || order(k, best) < 0 {
			best, first = k, false
		}
	}
	return best
}

// makeRoomForName lets the name with the fewest peers go, if there are too many.
func (s *stock) makeRoomForName() {
	if len(s.who) < s.names {
		return
	}
	delete(s.who, least(maps.Keys(s.who), func(a, b string) int {
		return cmp.Or(cmp.Compare(len(s.who[a]), len(s.who[b])), strings.Compare(a, b))
	}))
}

// makeRoomForPeer lets the peer that told at the oldest time go, if there are too many.
func (s *stock) makeRoomForPeer(l map[api.Addr]peer) {
	if len(l) < s.peers {
		return
	}
	delete(l, least(maps.Keys(l), func(a, b api.Addr) int {
		return cmp.Or(cmp.Compare(l[a].at, l[b].at), must(addr.Compare(a, b)))
	}))
}

// makeRoomForItem lets the item that was put at the oldest time go, if there are too many.
func (s *stock) makeRoomForItem() {
	if len(s.things) < s.items {
		return
	}
	delete(s.things, least(maps.Keys(s.things), func(a, b string) int {
		return cmp.Or(cmp.Compare(s.things[a].at, s.things[b].at), strings.Compare(a, b))
	}))
}

// announce keeps a peer.
func (s *stock) announce(now int, name string, a api.Addr, seed bool) {
	s.tell(now)
	if s.who[name] == nil {
		s.makeRoomForName()
		s.who[name] = map[api.Addr]peer{}
	}
	l := s.who[name]
	if _, ok := l[a]; !ok {
		s.makeRoomForPeer(l)
	}
	l[a] = peer{seed, now}
}

// Announce keeps a peer.
func (s *Store) Announce(now int, name string, a api.Addr, seed bool) api.Errno {
	_, e := attempt(func() bool {
		s.ask()
		askName(name)
		askAddr(a)
		s.askTime(now)
		s.announce(now, name, a, seed)
		return true
	})
	return e
}

// drawn are things in the order of digests.
func drawn[K any](l iter.Seq[K], digest func(K) string) []K {
	by := map[string]K{}
	for k := range l {
		by[digest(k)] = k
	}
	var out []K
	for _, d := range slices.Sorted(maps.Keys(by)) {
		out = append(out, by[d])
	}
	return out
}

// ofFamily yields the peers of a name and a family.
func (s *stock) ofFamily(name string, family int) iter.Seq[api.Addr] {
	return func(yield func(api.Addr) bool) {
		for a := range s.who[name] {
			if a.Family == family && !yield(a) {
				return
			}
		}
	}
}

// Peers returns peers of a name and a family.
func (s *Store) Peers(now int, name string, family, most int) ([]api.Addr, api.Errno) {
	return attempt(func() []api.Addr {
		s.ask()
		askName(name)
		s.askTime(now)
		refuse(family != 4 && family != 6 || most < 0, api.ErrRange)
		s.tell(now)
		before := s.seed + ":" + strconv.Itoa(now) + ":"
		l := drawn(s.ofFamily(name, family), func(a api.Addr) string { return hash.Old(before + must(addr.Pack(a))) })
		return slices.Clone(l[:min(most, len(l))])
	})
}

// counts are three numbers of things.
type counts struct{ a, b, c int }

// Seeds counts the peers of a name by what they told.
func (s *Store) Seeds(now int, name string) (seeds, others int, e api.Errno) {
	n, e := attempt(func() counts {
		s.ask()
		askName(name)
		s.askTime(now)
		s.tell(now)
		var n counts
		for _, p := range s.who[name] {
			if p.seed {
				n.a++
			} else {
				n.b++
			}
		}
		return n
	})
	return n.a, n.b, e
}

// PutPlain keeps an immutable item.
func (s *Store) PutPlain(now int, value string) (string, api.Errno) {
	return attempt(func() string {
		s.ask()
		s.askTime(now)
		place := must(sign.Plain(value))
		s.tell(now)
		s.put(place, thing{plain: value, at: now})
		return place
	})
}

// put puts an item in its place; there is room for one that is there already.
func (s *stock) put(place string, t thing) {
	if _, ok := s.things[place]; !ok {
		s.makeRoomForItem()
	}
	s.things[place] = t
}

// askReplace asks whether a signed item may come where something is.
func askReplace(t thing, there bool, i api.Item, expected int) {
	if !there {
		refuse(!sign.Valid(i), api.ErrSign)
		refuse(expected >= 0, api.ErrState)
		return
	}
	if t.item.Key == "" {
		refuse(!sign.Valid(i), api.ErrSign)
		panic(api.ErrKind)
	}
	e := sign.Replace(t.item, i, expected)
	refuse(e != api.OK, e)
}

// PutItem keeps a signed item.
func (s *Store) PutItem(now int, i api.Item, expected int) (string, api.Errno) {
	return attempt(func() string {
		s.ask()
		part, _ := sign.Wrong(i)
		refuse(part != "" && part != "sign", api.ErrInvalid)
		s.askTime(now)
		place := must(sign.Place(i.Key, i.Salt))
		t, there := s.things[place]
		there = there && !old(now, itemLife)(t.at)
		askReplace(t, there, i, expected)
		if there && t.item.Number == i.Number {
			i = t.item
		}
		s.tell(now)
		s.put(place, thing{item: i, at: now})
		return place
	})
}

// get returns what is in a place at a time.
func (s *stock) get(now int, place string) thing {
	t, ok := s.things[place]
	refuse(!ok || old(now, itemLife)(t.at), api.ErrNone)
	s.tell(now)
	return t
}

// Get returns what is in a place.
func (s *Store) Get(now int, place string) (i api.Item, plain string, e api.Errno) {
	t, e := attempt(func() thing {
		s.ask()
		askName(place)
		s.askTime(now)
		return s.get(now, place)
	})
	return t.item, t.plain, e
}

// Until returns the last time at which an item is there.
func (s *Store) Until(now int, place string) (int, api.Errno) {
	return attempt(func() int {
		s.ask()
		askName(place)
		s.askTime(now)
		return s.get(now, place).at + itemLife
	})
}

// samples are names in the order of the present interval.
func (s *stock) samples(now int) []string {
	before := s.seed + ":" + strconv.Itoa(now/interval)
	l := drawn(maps.Keys(s.who), func(name string) string { return hash.Old(before + name) })
	return slices.Clone(l[:min(mostSamples, len(l))])
}

// told runs f at a time that is told.
func told[T any](s *Store, now int, f func() T) (T, api.Errno) {
	return attempt(func() T {
		s.ask()
		s.askTime(now)
		s.tell(now)
		return f()
	})
}

// Samples returns the samples.
func (s *Store) Samples(now int) ([]string, api.Errno) {
	return told(s, now, func() []string { return s.samples(now) })
}

// Names returns the names that have peers.
func (s *Store) Names(now int) ([]string, api.Errno) {
	return told(s, now, func() []string { return slices.Sorted(maps.Keys(s.who)) })
}

// Places returns the places of items.
func (s *Store) Places(now int) ([]string, api.Errno) {
	return told(s, now, func() []string { return slices.Sorted(maps.Keys(s.things)) })
}

// Count counts names, peers and items.
func (s *Store) Count(now int) (names, peers, items int, e api.Errno) {
	n, e := told(s, now, func() counts {
		n := counts{a: len(s.who), c: len(s.things)}
		for _, l := range s.who {
			n.b += len(l)
		}
		return n
	})
	return n.a, n.b, n.c, e
}
