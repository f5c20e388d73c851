package local

import (
	"cmp"
	"iter"
	"maps"
	"slices"
	"strings"

	"covey/addr"
	"covey/api"
	"covey/hash"
)

const (
	mostSeed   = 100
	leastEvery = 1000
	mostEvery  = 1000000
	mostKept   = 200
	between    = 1000
	minute     = 60000
	mostHeard  = 20
	never      = -1
)

// clock keeps the last time that was told, and that of the last message (never: none).
type clock struct{ now, last int }

func (c *clock) askTime(now int) {
	refuse(now < 0 || now > api.MaxTime || now < c.now, api.ErrRange)
}

// free is the first time, from now on, at which a message may be told.
func (c *clock) free(now int) int {
	if c.last == never {
		return now
	}
	return max(now, c.last+between)
}

// Crier tells what content it has, and hears what others have.
type Crier struct {
	clock
	port, every int
	cookie      string
	told        map[string]int
	heard       map[string]int
}

// New makes a crier without content.
func New(seed string, port, every int) (*Crier, api.Errno) {
	return attempt(func() *Crier {
		refuse(len(seed) > mostSeed, api.ErrInvalid)
		refuse(!validPort(port) || every < leastEvery || every > mostEvery, api.ErrRange)
		return &Crier{clock: clock{last: never}, port: port, every: every, cookie: hash.Hex(hash.Sum(seed)[:8]), told: map[string]int{}, heard: map[string]int{}}
	})
}

func (c *Crier) ask() { refuse(c == nil || c.told == nil, api.ErrInvalid) }

func (c *Crier) askName(name string) {
	c.ask()
	refuse(!validName(name), api.ErrInvalid)
}

// tell sets the time; what was heard in an earlier minute is forgotten.
func (c *Crier) tell(now int) {
	if now/minute != c.now/minute {
		clear(c.heard)
	}
	c.now = now
}

// Add puts content in.
func (c *Crier) Add(name string, private bool) api.Errno {
	_, e := attempt(func() bool {
		c.askName(name)
		refuse(private, api.ErrRefused)
		_, there := c.told[name]
		refuse(there, api.ErrDuplicate)
		refuse(len(c.told) >= mostKept, api.ErrLimit)
		c.told[name] = never
		return true
	})
	return e
}

// Drop takes content out.
func (c *Crier) Drop(name string) api.Errno {
	_, e := attempt(func() bool {
		c.askName(name)
		_, there := c.told[name]
		refuse(!there, api.ErrNone)
		delete(c.told, name)
		return true
	})
	return e
}

// Names returns the names of the content.
func (c *Crier) Names() []string {
	if c == nil {
		return nil
	}
	return slices.Sorted(maps.Keys(c.told))
}

// due is the first time at which a name may be told.
func (c *Crier) due(name string) int {
	if last := c.told[name]; last != never {
		return last + c.every
	}
	return 0
}

// waiting yields the names that may be told at a time, those that wait longest first.
func (c *Crier) waiting(now int) iter.Seq[string] {
	order := func(a, b string) int {
		return cmp.Or(cmp.Compare(c.told[a], c.told[b]), strings.Compare(a, b))
	}
	return func(yield func(string) bool) {
		for _, name := range slices.SortedFunc(maps.Keys(c.told), order) {
			if c.due(name) <= now && !yield(name) {
				return
			}
		}
	}
}

// Tell returns the message that is to be sent now.
func (c *Crier) Tell(now int) (string, api.Errno) {
	return attempt(func() string {
		c.ask()
		c.askTime(now)
		refuse(c.free(now) > now, api.ErrNone)
		m := api.Called{Port: c.port, Cookie: c.cookie}
		for name := range c.waiting(now) {
			if len(m.Names) == mostNames {
				break
			}
			m.Names = append(m.Names, name)
		}
		refuse(len(m.Names) == 0, api.ErrNone)
		slices.Sort(m.Names)
		c.tell(now)
		c.last = now
		for _, name := range m.Names {
			c.told[name] = now
		}
		return format(m)
	})
}

// When returns the next time at which Tell would return a message; a time beyond the bounds is none.
func (c *Crier) When(now int) (int, api.Errno) {
	return attempt(func() int {
		c.ask()
		c.askTime(now)
		refuse(len(c.told) == 0, api.ErrNone)
		least, first := 0, true
		for name := range c.told {
			if d := c.due(name); first || d < least {
				least, first = d, false
			}
		}
		at := max(least, c.free(now))
		refuse(at > api.MaxTime, api.ErrNone)
		c.tell(now)
		return at
	})
}

// Hear takes a text from an address: the names that both have, and the peer's address.
func (c *Crier) Hear(now int, from api.Addr, text string) ([]string, api.Addr, api.Errno) {
	m, e := attempt(func() api.Called {
		c.ask()
		refuse(!addr.Valid(from), api.ErrInvalid)
		refuse(len(text) > mostText, api.ErrLong)
		c.askTime(now)
		m, _, e := Parse(text)
		refuse(e != api.OK, e)
		refuse(m.Cookie == c.cookie, api.ErrState)
		refuse(now/minute == c.now/minute && c.heard[from.IP] >= mostHeard, api.ErrFull)
		c.tell(now)
		c.heard[from.IP]++
		return m
	})
	if e != api.OK {
		return nil, api.Addr{}, e
	}
	var names []string
	for _, n := range m.Names {
		if _, there := c.told[n]; there {
			names = append(names, n)
		}
	}
	from.Port = m.Port
	return names, from, api.OK
}

// Heard returns how many messages of an IP were heard in this minute.
func (c *Crier) Heard(now int, from api.Addr) (int, api.Errno) {
	return attempt(func() int {
		c.ask()
		refuse(!addr.Valid(from), api.ErrInvalid)
		c.askTime(now)
		c.tell(now)
		return c.heard[from.IP]
	})
}

// Cookie returns the crier's cookie.
func (c *Crier) Cookie() string {
	if c == nil {
		return ""
	}
	return c.cookie
}

// Last returns when a name was told last.
func (c *Crier) Last(name string) (int, api.Errno) {
	return attempt(func() int {
		c.askName(name)
		last, there := c.told[name]
		refuse(!there || last == never, api.ErrNone)
		return last
	})
}
