package swarm

import (
	"slices"

	"covey/api"
	"covey/bits"
)

// Up tells whether a guest is up.
func (s *Swarm) Up(n int) (bool, api.Errno) {
	return attempt(func() bool {
		s.ask(n)
		return s.guests[n].up()
	})
}

// of returns a guest that must be up.
func (s *Swarm) of(n int) *guest {
	s.ask(n)
	g := s.guests[n]
	refuse(!g.up(), api.ErrDown)
	return g
}

// Had tells the field of a guest's pieces.
func (s *Swarm) Had(n int) (string, api.Errno) {
	return attempt(func() string { return s.of(n).Had() })
}

// Done tells whether a guest has all pieces.
func (s *Swarm) Done(n int) (bool, api.Errno) {
	return attempt(func() bool { return s.of(n).Done() })
}

// number is the number that a guest gives to a file of the metainfo's list.
func (s *Swarm) number(g *guest, file int) int {
	l := s.meta.Info.Files
	refuse(!within(file, 0, len(l)-1), api.ErrRange)
	refuse(l[file].Pad, api.ErrKind)
	if g.client.Version != api.VNew {
		return file
	}
	n := 0
	for _, f := range l[:file] {
		if !f.Pad {
			n++
		}
	}
	return n
}

// Data returns a file's bytes.
func (s *Swarm) Data(n, file int) (string, api.Errno) {
	return attempt(func() string {
		g := s.of(n)
		return must(g.Data(s.number(g, file)))
	})
}

// Connected tells whether both ends between two guests are open.
func (s *Swarm) Connected(a, b int) (bool, api.Errno) {
	return attempt(func() bool {
		s.askPair(a, b)
		return s.connected(a, b)
	})
}

// Banned returns the guests that a guest has banned.
func (s *Swarm) Banned(n int) ([]int, api.Errno) {
	return attempt(func() []int {
		s.of(n)
		var out []int
		for k := range s.guests {
			if s.bans(n, k) {
				out = append(out, k)
			}
		}
		return out
	})
}

// moved are bytes that came and went.
type moved struct{ got, sent int }

// Moved adds up what a guest has got and sent in its life.
func (s *Swarm) Moved(n int) (got, sent int, e api.Errno) {
	m, e := attempt(func() moved {
		s.ask(n)
		g := s.guests[n]
		got, sent := g.Moved()
		return moved{g.got + got, g.sent + sent}
	})
	return m.got, m.sent, e
}

// Now returns the time.
func (s *Swarm) Now() int {
	if s == nil {
		return 0
	}
	return s.now
}

// Quiet reports whether nothing is on the way.
func (s *Swarm) Quiet() bool {
	if s == nil {
		return false
	}
	for _, l := range s.way {
		if len(l) > 0 {
			return false
		}
	}
	return true
}

// honest reports whether a guest is up and does not lie.
func (g *guest) honest() bool { return g.up() && g.client.Lie == 0 }

// reached are the guests that are reached from one, through honest ones.
func (s *Swarm) reached(n int) []int {
	out := []int{n}
	for at := 0; at < len(out); at++ {
		if at > 0 && !s.guests[out[at]].honest() {
			continue
		}
		for k := range s.guests {
			if k != out[at] && !slices.Contains(out, k) && s.joined(out[at], k) {
				out = append(out, k)
			}
		}
	}
	return out
}

// Reach returns the pieces that a guest could get, if nothing changes.
func (s *Swarm) Reach(n int) ([]int, api.Errno) {
	return attempt(func() []int {
		s.ask(n)
		if !s.guests[n].up() {
			return nil
		}
		all, _ := bits.New(count(s.meta))
		for _, k := range s.reached(n) {
			if g := s.guests[k]; g.honest() {
				all = must(bits.Or(count(s.meta), all, g.Had()))
			}
		}
		return must(bits.List(count(s.meta), all))
	})
}
