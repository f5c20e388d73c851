// Package track has trackers: what is told to them and by them, by two wires, and what they know.
package track

import (
	"slices"
	"strconv"
	"strings"

	"covey/addr"
	"covey/api"
	"covey/benc"
	"covey/hash"
)

const (
	mostBytes    = 1000000000000
	mostWant     = 1000
	mostInterval = 100000
	mostCount    = 1000000
	mostPeers    = 1000
	mostReason   = 100
	mostNames    = 50
	mostScraped  = 1<<32 - 1

	askPath    = "/announce?"
	scrapePath = "/scrape?"
)

// attempt runs f and tells the Errno that left it by a panic.
func attempt[T any](f func() T) (out T, e api.Errno) {
	defer func() {
		if x := recover(); x != nil {
			var none T
			out, e = none, api.ErrInvalid
			if told, ok := x.(api.Errno); ok {
				e = told
			}
		}
	}()
	return f(), api.OK
}

// refuse leaves by a panic if something is wrong.
func refuse(wrong bool, e api.Errno) {
	if wrong {
		panic(e)
	}
}

// must returns a result, or leaves with its error.
func must[T any](x T, e api.Errno) T {
	refuse(e != api.OK, e)
	return x
}

func within(n, least, most int) bool { return n >= least && n <= most }

// ValidAnnounce reports whether an announce is valid.
func ValidAnnounce(a api.Announce) bool {
	return len(a.Name) == api.OldSize && len(a.Peer) == api.OldSize && addr.Valid(a.Addr) &&
		within(a.Up, 0, mostBytes) && within(a.Down, 0, mostBytes) && within(a.Left, 0, mostBytes) &&
		within(a.Event, api.ENone, api.EDone) && within(a.Want, -1, mostWant)
}

// ValidAnswer reports whether an answer is valid.
func ValidAnswer(a api.Answer) bool {
	if a.Failure != "" {
		return len(a.Failure) <= mostReason && a.Interval == 0 && a.Seeds == 0 && a.Others == 0 && len(a.Peers) == 0
	}
	for _, p := range a.Peers {
		if !addr.Valid(p) {
			return false
		}
	}
	return within(a.Interval, 1, mostInterval) && within(a.Seeds, 0, mostCount) && within(a.Others, 0, mostCount) && len(a.Peers) <= mostPeers
}

// plain reports whether a byte stands as it is.
func plain(c byte) bool {
	return c >= 'a' && c <= 'z' || c >= 'A' && c <= 'Z' || c >= '0' && c <= '9' || c == '-' || c == '.' || c == '_' || c == '~'
}

func escape(s string) string {
	const digits = "0123456789ABCDEF"
	out := make([]byte, 0, len(s))
	for i := range len(s) {
		if c := s[i]; plain(c) {
			out = append(out, c)
		} else {
			out = append(out, '%', digits[c>>4], digits[c&15])
		}
	}
	return string(out)
}

// unescape reads escapes; what comes is held against what is written later.
func unescape(s string) string {
	out := make([]byte, 0, len(s))
	for i := 0; i < len(s); i++ {
		if s[i] != '%' {
			out = append(out, s[i])
			continue
		}
		refuse(len(s)-i < 3, api.ErrSyntax)
		c, e := hash.FromHex(strings.ToLower(s[i+1 : i+3]))
		refuse(e != api.OK, api.ErrSyntax)
		out = append(out, c...)
		i += 2
	}
	return string(out)
}

// eventName is an event's name on the first wire.
func eventName(event int) string {
	switch event {
	case api.EStarted:
		return "started"
	case api.EStopped:
		return "stopped"
	case api.EDone:
		return "completed"
	}
	return ""
}

// ask writes a valid announce.
func ask(a api.Announce) string {
	parts := []string{
		"info_hash=" + escape(a.Name), "peer_id=" + escape(a.Peer), "port=" + strconv.Itoa(a.Addr.Port),
		"uploaded=" + strconv.Itoa(a.Up), "downloaded=" + strconv.Itoa(a.Down), "left=" + strconv.Itoa(a.Left),
	}
	if a.Event != api.ENone {
		parts = append(parts, "event="+eventName(a.Event))
	}
	if a.Want != -1 {
		parts = append(parts, "numwant="+strconv.Itoa(a.Want))
	}
	ip := must(addr.Text(a.Addr))
	parts = append(parts, "ip="+ip[:strings.LastIndexByte(ip, ':')])
	return askPath + strings.Join(parts, "&")
}

// Ask writes an announce.
func Ask(a api.Announce) (string, api.Errno) {
	return attempt(func() string {
		refuse(!ValidAnnounce(a), api.ErrInvalid)
		return ask(a)
	})
}

func number(s string) int {
	n, err := strconv.Atoi(s)
	refuse(err != nil, api.ErrSyntax)
	return n
}

func event(name string) int {
	for n := api.EStarted; n <= api.EDone; n++ {
		if eventName(n) == name {
			return n
		}
	}
	panic(api.ErrSyntax)
}

// fields are the functions that read the fields of an announce, by their keys.
func fields(a *api.Announce) map[string]func(value string) {
	return map[string]func(value string){
		"info_hash":  func(v string) { a.Name = unescape(v) },
		"peer_id":    func(v string) { a.Peer = unescape(v) },
		"port":       func(v string) { a.Addr.Port = number(v) },
		"uploaded":   func(v string) { a.Up = number(v) },
		"downloaded": func(v string) { a.Down = number(v) },
		"left":       func(v string) { a.Left = number(v) },
		"event":      func(v string) { a.Event = event(v) },
		"numwant":    func(v string) { a.Want = number(v) },
		"ip": func(v string) {
			x, e := addr.Parse(v + ":1")
			refuse(e != api.OK, api.ErrSyntax)
			a.Addr.Family, a.Addr.IP = x.Family, x.IP
		},
	}
}

// askLong asks a text that is to be read.
func askLong(text string) { refuse(len(text) > api.MaxText, api.ErrLong) }

// Asked reads an announce.
func Asked(text string) (api.Announce, api.Errno) {
	return attempt(func() api.Announce {
		askLong(text)
		rest, ok := strings.CutPrefix(text, askPath)
		refuse(!ok, api.ErrSyntax)
		a := api.Announce{Want: -1}
		by := fields(&a)
		for _, part := range strings.Split(rest, "&") {
			key, value, _ := strings.Cut(part, "=")
			read := by[key]
			refuse(read == nil, api.ErrSyntax)
			read(value)
		}
		refuse(!ValidAnnounce(a) || ask(a) != text, api.ErrSyntax)
		return a
	})
}

func dict(keys []string, kids ...api.Value) api.Value { return must(benc.Dict(keys, kids)) }

// tell writes a valid answer.
func tell(a api.Answer) string {
	if a.Failure != "" {
		return must(benc.Format(dict([]string{"failure reason"}, benc.Text(a.Failure))))
	}
	four, six := must(addr.PackAll(a.Peers, 4)), must(addr.PackAll(a.Peers, 6))
	keys := []string{"complete", "incomplete", "interval", "peers"}
	kids := []api.Value{benc.Int(a.Seeds), benc.Int(a.Others), benc.Int(a.Interval), benc.Text(four)}
	if six != "" {
		keys = append(keys, "peers6")
		kids = append(kids, benc.Text(six))
	}
	return must(benc.Format(dict(keys, kids...)))
}

// Tell writes an answer.
func Tell(a api.Answer) (string, api.Errno) {
	return attempt(func() string {
		refuse(!ValidAnswer(a), api.ErrInvalid)
		return tell(a)
	})
}

// parse reads a value; whatever is wrong is ErrSyntax.
func parse(text string) api.Value {
	askLong(text)
	v, e := benc.Parse(text)
	refuse(e != api.OK, api.ErrSyntax)
	return v
}

// at returns the value of a key; one that lacks is of no kind.
func at(v api.Value, key string) api.Value {
	if i := slices.Index(v.Keys, key); i >= 0 {
		return v.Kids[i]
	}
	return api.Value{}
}

func unpack(s string, family int) []api.Addr {
	l, e := addr.UnpackAll(s, family)
	refuse(e != api.OK, api.ErrSyntax)
	return l
}

// Told reads an answer.
func Told(text string) (api.Answer, api.Errno) {
	return attempt(func() api.Answer {
		v := parse(text)
		a := api.Answer{
			Failure: at(v, "failure reason").S, Seeds: at(v, "complete").N, Others: at(v, "incomplete").N, Interval: at(v, "interval").N,
			Peers: append(unpack(at(v, "peers").S, 4), unpack(at(v, "peers6").S, 6)...),
		}
		refuse(!ValidAnswer(a) || tell(a) != text, api.ErrSyntax)
		return a
	})
}

func askNameSizes(names []string) {
	for _, n := range names {
		refuse(len(n) != api.OldSize, api.ErrInvalid)
	}
}

// askOnce asks for names that are all different.
func askOnce(names []string) {
	met := map[string]bool{}
	for _, n := range names {
		refuse(met[n], api.ErrDuplicate)
		met[n] = true
	}
}

func askNumber(names []string) { refuse(!within(len(names), 1, mostNames), api.ErrSize) }

func scrape(names []string) string {
	var parts []string
	for _, n := range names {
		parts = append(parts, "info_hash="+escape(n))
	}
	return scrapePath + strings.Join(parts, "&")
}

// Scrape writes a scrape.
func Scrape(names []string) (string, api.Errno) {
	return attempt(func() string {
		askNameSizes(names)
		askNumber(names)
		askOnce(names)
		return scrape(names)
	})
}

// Scraped reads a scrape.
func Scraped(text string) ([]string, api.Errno) {
	return attempt(func() []string {
		askLong(text)
		rest, ok := strings.CutPrefix(text, scrapePath)
		refuse(!ok, api.ErrSyntax)
		var names []string
		for _, part := range strings.Split(rest, "&") {
			value, ok := strings.CutPrefix(part, "info_hash=")
			refuse(!ok, api.ErrSyntax)
			names = append(names, unescape(value))
		}
		back, e := Scrape(names)
		refuse(e != api.OK || back != text, api.ErrSyntax)
		return names
	})
}

func validScraped(s api.Scraped) bool {
	return within(s.Seeds, 0, mostScraped) && within(s.Done, 0, mostScraped) && within(s.Others, 0, mostScraped)
}

// TellScrape writes the answer to a scrape.
func TellScrape(names []string, l []api.Scraped) (string, api.Errno) {
	return attempt(func() string {
		askNameSizes(names)
		for _, s := range l {
			refuse(!validScraped(s), api.ErrInvalid)
		}
		refuse(len(names) != len(l), api.ErrSize)
		askNumber(names)
		askOnce(names)
		var kids []api.Value
		for _, s := range l {
			kids = append(kids, dict([]string{"complete", "downloaded", "incomplete"}, benc.Int(s.Seeds), benc.Int(s.Done), benc.Int(s.Others)))
		}
		return must(benc.Format(dict([]string{"files"}, dict(names, kids...))))
	})
}

// counted are names with what was counted of them.
type counted struct {
	names []string
	l     []api.Scraped
}

// ToldScrape reads the answer to a scrape.
func ToldScrape(text string) ([]string, []api.Scraped, api.Errno) {
	c, e := attempt(func() counted {
		files := at(parse(text), "files")
		var c counted
		for i, name := range files.Keys {
			v := files.Kids[i]
			c.names = append(c.names, name)
			c.l = append(c.l, api.Scraped{Seeds: at(v, "complete").N, Done: at(v, "downloaded").N, Others: at(v, "incomplete").N})
		}
		back, e := TellScrape(c.names, c.l)
		refuse(e != api.OK || back != text, api.ErrSyntax)
		return c
	})
	return c.names, c.l, e
}
