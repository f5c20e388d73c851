package web

import (
	"cmp"
	"iter"
	"slices"

	"covey/api"
)

const (
	mostRun    = 16
	firstWait  = 1000
	mostWait   = 600000
	mostFailed = 8
	mostBad    = 3
)

// under is the run that is under way, if any.
type under struct {
	busy bool
	run  api.Run
}

// seed is a web seed: how often it failed one behind the other, when it may be asked again, how many of its pieces were bad, and whether it is out for good.
type seed struct {
	under
	failed, wait, bad int
	out               bool
}

// Client gets pieces from web seeds.
type Client struct {
	now    int
	run    int
	wanted []bool
	busy   []bool
	seeds  []*seed
	gave   map[int]int
}

// isSet tells a bit of a field.
func isSet(s string, i int) bool { return s[i/8]&(128>>(i%8)) != 0 }

// validField reports whether a text is a field of n bits.
func validField(n int, s string) bool {
	if !within(n, 0, api.MaxBits) || len(s) != (n+7)/8 {
		return false
	}
	for i := n; i < 8*len(s); i++ {
		if isSet(s, i) {
			return false
		}
	}
	return true
}

// New makes a client.
func New(urls []string, pieces int, wanted string, run int) (*Client, api.Errno) {
	return attempt(func() *Client {
		for _, u := range urls {
			refuse(!Valid(u), api.ErrInvalid)
		}
		refuse(!validField(pieces, wanted), api.ErrInvalid)
		refuse(!within(run, 1, mostRun), api.ErrRange)
		refuse(!within(len(urls), 1, mostWeb), api.ErrSize)
		c := &Client{run: run, wanted: make([]bool, pieces), busy: make([]bool, pieces), gave: map[int]int{}}
		for i, u := range urls {
			refuse(slices.Contains(urls[:i], u), api.ErrDuplicate)
			c.seeds = append(c.seeds, &seed{})
		}
		for i := range pieces {
			c.wanted[i] = isSet(wanted, i)
		}
		return c
	})
}

func (c *Client) ask() { refuse(c == nil || c.gave == nil, api.ErrInvalid) }

func (c *Client) askTime(now int) { refuse(!within(now, c.now, api.MaxTime), api.ErrRange) }

func (c *Client) askWeb(web int) { refuse(!within(web, 0, len(c.seeds)-1), api.ErrRange) }

func (c *Client) askPiece(i int) { refuse(!within(i, 0, len(c.wanted)-1), api.ErrRange) }

// runs yields the maximal runs of pieces that are wanted and not under way.
func (c *Client) runs() iter.Seq[api.Run] {
	return func(yield func(api.Run) bool) {
		var r api.Run
		for i := range len(c.wanted) + 1 {
			if i < len(c.wanted) && c.wanted[i] && !c.busy[i] {
				if r.Count == 0 {
					r.From = i
				}
				r.Count++
				continue
			}
			if r.Count > 0 && !yield(r) {
				return
			}
			r = api.Run{}
		}
	}
}

// greatest returns the first of those that are greatest by a key; false if there is none.
func greatest[T any, K cmp.Ordered](l iter.Seq[T], key func(T) K) (T, bool) {
	var best T
	some := false
	for x := range l {
		if !some || key(x) > key(best) {
			best, some = x, true
		}
	}
	return best, some
}

// longest is the run that is to be got next.
func (c *Client) longest() (api.Run, bool) {
	r, some := greatest(c.runs(), func(r api.Run) int { return min(r.Count, c.run) })
	r.Count = min(r.Count, c.run)
	return r, some
}

// mark sets whether the pieces of a run are under way.
func (c *Client) mark(r api.Run, busy bool) {
	for i := range r.Count {
		c.busy[r.From+i] = busy
	}
}

// asked is a run of a seed.
type asked struct {
	web int
	run api.Run
}

// Next returns a run that is to be got now.
func (c *Client) Next(now int) (web int, r api.Run, e api.Errno) {
	a, e := attempt(func() asked {
		c.ask()
		c.askTime(now)
		for i, s := range c.seeds {
			if s.out || s.busy || s.wait > now {
				continue
			}
			r, some := c.longest()
			refuse(!some, api.ErrNone)
			c.now = now
			s.under = under{true, r}
			c.mark(r, true)
			return asked{i, r}
		}
		panic(api.ErrNone)
	})
	return a.web, a.run, e
}

// end ends the run of a seed.
func (c *Client) end(now, web int, how func(web int, s *seed, r api.Run)) (api.Run, api.Errno) {
	return attempt(func() api.Run {
		c.ask()
		c.askTime(now)
		c.askWeb(web)
		s := c.seeds[web]
		refuse(!s.busy, api.ErrNone)
		c.now = now
		r := s.run
		s.under = under{}
		c.mark(r, false)
		how(web, s, r)
		return r
	})
}

// took notes that a run came.
func (c *Client) took(web int, s *seed, r api.Run) {
	s.failed, s.wait = 0, 0
	for i := range r.Count {
		c.wanted[r.From+i] = false
		c.gave[r.From+i] = web
	}
}

// failed notes that a run did not come.
func (c *Client) failed(_ int, s *seed, _ api.Run) {
	s.failed++
	s.wait = c.now + min(mostWait, firstWait<<min(s.failed, 10))
	s.out = s.out || s.failed >= mostFailed
}

// gone notes that there is nothing where a run should come from.
func (c *Client) gone(web int, s *seed, r api.Run) {
	c.failed(web, s, r)
	s.out = true
}

// Took tells that the run of a seed came.
func (c *Client) Took(now, web int) (api.Run, api.Errno) {
	if c == nil {
		return api.Run{}, api.ErrInvalid
	}
	return c.end(now, web, c.took)
}

// Failed tells that the run of a seed did not come.
func (c *Client) Failed(now, web int, gone bool) api.Errno {
	if c == nil {
		return api.ErrInvalid
	}
	how := c.failed
	if gone {
		how = c.gone
	}
	_, e := c.end(now, web, how)
	return e
}

// Bad tells that a piece that a seed gave was wrong.
func (c *Client) Bad(now, web, piece int) api.Errno {
	_, e := attempt(func() bool {
		c.ask()
		c.askTime(now)
		c.askWeb(web)
		c.askPiece(piece)
		by, given := c.gave[piece]
		refuse(!given || by != web, api.ErrState)
		c.now = now
		delete(c.gave, piece)
		c.wanted[piece] = true
		s := c.seeds[web]
		s.bad++
		s.out = s.out || s.bad >= mostBad
		return true
	})
	return e
}

// Want puts a piece in, or takes it out.
func (c *Client) Want(piece int, to bool) api.Errno {
	_, e := attempt(func() bool {
		c.ask()
		c.askPiece(piece)
		c.wanted[piece] = to
		return true
	})
	return e
}

// Wanted returns the pieces that are wanted, with those under way: one that was taken out then may come all the same.
func (c *Client) Wanted() string {
	if c == nil {
		return ""
	}
	b := make([]byte, (len(c.wanted)+7)/8)
	for i, w := range c.wanted {
		if w || c.busy[i] {
			b[i/8] |= 128 >> (i % 8)
		}
	}
	return string(b)
}

// Under returns the runs under way.
func (c *Client) Under() []api.Run {
	if c == nil {
		return nil
	}
	var out []api.Run
	for _, s := range c.seeds {
		if s.busy {
			out = append(out, s.run)
		}
	}
	slices.SortFunc(out, func(a, b api.Run) int { return cmp.Compare(a.From, b.From) })
	return out
}

// When returns the next time at which Next would return something; a time beyond the bounds is none.
func (c *Client) When(now int) (int, api.Errno) {
	return attempt(func() int {
		c.ask()
		c.askTime(now)
		_, some := c.longest()
		refuse(!some, api.ErrNone)
		least := -1
		for _, s := range c.seeds {
			if !s.out && !s.busy && (least < 0 || s.wait < least) {
				least = s.wait
			}
		}
		refuse(!within(least, 0, api.MaxTime), api.ErrNone)
		c.now = now
		return max(now, least)
	})
}

// Out reports whether a seed is out for good.
func (c *Client) Out(web int) (bool, api.Errno) {
	return attempt(func() bool {
		c.ask()
		c.askWeb(web)
		return c.seeds[web].out
	})
}

// Wait returns when a seed may be asked again.
func (c *Client) Wait(web int) (int, api.Errno) {
	return attempt(func() int {
		c.ask()
		c.askWeb(web)
		return c.seeds[web].wait
	})
}
