package magnet

import (
	"strings"

	"covey/addr"
	"covey/api"
	"covey/bits"
	"covey/hash"
)

const (
	urnOld = "urn:cvo:"
	urnNew = "urn:cvn:"
)

// topics writes the topics of a magnet.
func topics(m api.Magnet, put func(key string, l ...string)) {
	if m.Old != "" {
		put("xt="+urnOld, hash.Hex(m.Old))
	}
	if m.New != "" {
		put("xt="+urnNew, hash.Hex(m.New))
	}
}

// plain reports whether a byte stands as it is.
func plain(c byte) bool {
	return c >= 'a' && c <= 'z' || c >= 'A' && c <= 'Z' || c >= '0' && c <= '9' || c == '-' || c == '.' || c == '_' || c == '~'
}

// Escape escapes bytes.
func Escape(s string) string {
	const digits = "0123456789ABCDEF"
	out := make([]byte, 0, len(s))
	for i := range len(s) {
		if c := s[i]; plain(c) {
			out = append(out, c)
		} else {
			out = append(out, '%', digits[c>>4], digits[c&15])
		}
	}
	return string(out)
}

func escapeAll(l []string) []string {
	var out []string
	for _, s := range l {
		out = append(out, Escape(s))
	}
	return out
}

// unescape reads escapes, of bytes that need none as well.
func unescape(s string) string {
	out := make([]byte, 0, len(s))
	for i := 0; i < len(s); i++ {
		if s[i] != '%' {
			out = append(out, s[i])
			continue
		}
		refuse(len(s)-i < 3, api.ErrSyntax)
		out = append(out, hex(s[i+1:i+3])...)
		i += 2
	}
	return string(out)
}

// hex reads hexadecimal digits of either case.
func hex(s string) string {
	out, e := hash.FromHex(lower(s))
	refuse(e != api.OK, api.ErrSyntax)
	return out
}

// lower turns the letters A to Z into small ones, and leaves all other bytes.
func lower(s string) string {
	b := []byte(s)
	for i, c := range b {
		if c >= 'A' && c <= 'Z' {
			b[i] = c - 'A' + 'a'
		}
	}
	return string(b)
}

// Unescape reads what Escape writes.
func Unescape(s string) (string, api.Errno) {
	return attempt(func() string {
		refuse(len(s) > api.MaxText, api.ErrLong)
		out := unescape(s)
		refuse(Escape(out) != s, api.ErrSyntax)
		return out
	})
}

// reader fills a magnet part by part, and knows which of those that come once have come.
type reader struct {
	api.Magnet
	met map[string]bool
}

// once tells that a part came that may come once.
func (r *reader) once(part string) {
	refuse(r.met[part], api.ErrDuplicate)
	r.met[part] = true
}

func (r *reader) topic(value string) {
	if digits, ok := strings.CutPrefix(value, urnOld); ok {
		s := hex(digits)
		refuse(len(s) != api.OldSize, api.ErrSyntax)
		r.once(urnOld)
		r.Old = s
	}
	if digits, ok := strings.CutPrefix(value, urnNew); ok {
		s := hex(digits)
		refuse(len(s) != api.NewSize, api.ErrSyntax)
		r.once(urnNew)
		r.New = s
	}
}

func (r *reader) name(value string) {
	s := unescape(value)
	refuse(len(s) > mostName, api.ErrSyntax)
	r.once("dn")
	r.Name = s
}

// text reads a tracker or a web behind those that are there.
func text(l []string, value string) []string {
	s := unescape(value)
	refuse(!validText(s), api.ErrSyntax)
	refuse(len(l) == mostTexts, api.ErrLimit)
	return append(l, s)
}

func (r *reader) tracker(value string) { r.Trackers = text(r.Trackers, value) }

func (r *reader) web(value string) { r.Webs = text(r.Webs, value) }

func (r *reader) peer(value string) {
	a, e := addr.Parse(unescape(value))
	refuse(e != api.OK, api.ErrSyntax)
	refuse(len(r.Peers) == mostPeers, api.ErrLimit)
	r.Peers = append(r.Peers, a)
}

func (r *reader) only(value string) {
	value = strings.ReplaceAll(strings.ReplaceAll(value, "%2C", ","), "%2c", ",")
	s, e := bits.Parse(api.MaxFiles, value)
	refuse(e != api.OK || value == "", api.ErrSyntax)
	r.once("so")
	r.Only, _ = bits.Runs(api.MaxFiles, s)
}

// readers are the functions that read the parts, by their keys.
func (r *reader) readers() map[string]func(value string) {
	return map[string]func(value string){
		"xt": r.topic, "dn": r.name, "tr": r.tracker, "ws": r.web, "x.pe": r.peer, "so": r.only,
	}
}

// Parse reads a text of a magnet's parts in any order.
func Parse(text string) (api.Magnet, api.Errno) {
	return attempt(func() api.Magnet {
		refuse(len(text) > api.MaxText, api.ErrLong)
		rest, ok := strings.CutPrefix(text, before)
		refuse(!ok, api.ErrSyntax)
		refuse(rest == "", api.ErrNone)
		r := &reader{met: map[string]bool{}}
		by := r.readers()
		for _, part := range strings.Split(rest, "&") {
			key, value, ok := strings.Cut(part, "=")
			refuse(!ok, api.ErrSyntax)
			if read := by[key]; read != nil {
				read(value)
			}
		}
		refuse(r.Old+r.New == "", api.ErrNone)
		return r.Magnet
	})
}
