package extend

import (
	"iter"
	"slices"
	"strings"

	"covey/api"
	"covey/benc"
	"covey/hash"
)

const partSize = 64

// The kinds of messages of metadata.
const (
	asks    = 0
	data    = 1
	refuses = 2
)

// request writes a message that is a dictionary alone.
func request(kind, part int) (string, api.Errno) {
	return attempt(func() string {
		refuse(part < 0, api.ErrRange)
		d := &dict{}
		d.put("msg_type", benc.Int(kind))
		d.put("piece", benc.Int(part))
		return d.format()
	})
}

// Ask writes a message that asks for a part.
func Ask(part int) (string, api.Errno) { return request(asks, part) }

// Refuse writes a message that refuses a part.
func Refuse(part int) (string, api.Errno) { return request(refuses, part) }

// parts yields the parts of a text, with their numbers.
func parts(s string) iter.Seq2[int, string] {
	return func(yield func(int, string) bool) {
		for k := 0; s != ""; k++ {
			n := min(partSize, len(s))
			if !yield(k, s[:n]) {
				return
			}
			s = s[n:]
		}
	}
}

// Part writes a message with a part of a form.
func Part(form string, part int) (string, api.Errno) {
	return attempt(func() string {
		askLong(form)
		refuse(part < 0, api.ErrRange)
		refuse(form == "", api.ErrSize)
		for k, s := range parts(form) {
			if k == part {
				d := &dict{}
				d.put("msg_type", benc.Int(data))
				d.put("piece", benc.Int(part))
				d.put("total_size", benc.Int(len(form)))
				return d.format() + s
			}
		}
		panic(api.ErrRange)
	})
}

// message is a message of metadata.
type message struct {
	kind, part, total int
	data              string
}

// need returns a number that a dictionary must have, of at least some size.
func need(v api.Value, key string, least int) int {
	x, ok := get(v, key, api.BInt)
	refuse(!ok || x.N < least, api.ErrData)
	return x.N
}

// readers are the functions that read what is behind a message's part, by kinds.
func readers() map[int]func(m *message, v api.Value, rest string) {
	bare := func(*message, api.Value, string) {}
	return map[int]func(m *message, v api.Value, rest string){
		asks: bare, refuses: bare,
		data: func(m *message, v api.Value, rest string) {
			m.total, m.data = need(v, "total_size", 1), rest
			refuse(m.part > (m.total-1)/partSize || len(rest) != min(partSize, m.total-m.part*partSize), api.ErrData)
		},
	}
}

// isData reports whether a dictionary is that of a message with data.
func isData(v api.Value) bool {
	i := slices.Index(v.Keys, "msg_type")
	return i >= 0 && v.Kids[i].Kind == api.BInt && v.Kids[i].N == data
}

func readPart(s string) message {
	askLong(s)
	v, used, _, e := benc.Read(s)
	refuse(e != api.OK, e)
	refuse(v.Kind != api.BDict || used < len(s) && !isData(v), api.ErrSyntax)
	m := message{kind: need(v, "msg_type", asks)}
	m.part = need(v, "piece", 0)
	read := readers()[m.kind]
	refuse(read == nil, api.ErrData)
	read(&m, v, s[used:])
	return m
}

// ReadPart reads a message of metadata.
func ReadPart(s string) (kind, part, total int, data string, e api.Errno) {
	m, e := attempt(func() message { return readPart(s) })
	return m.kind, m.part, m.total, m.data, e
}

// Collector collects the parts of a form.
type Collector struct {
	size  int
	name  string
	parts []string
	form  string
	tries int
}

// Collect begins to collect a form of a size, by its name.
func Collect(size int, name string) (*Collector, api.Errno) {
	return attempt(func() *Collector {
		refuse(!within(size, 1, api.MaxText), api.ErrRange)
		refuse(len(name) != api.OldSize && len(name) != api.NewSize, api.ErrInvalid)
		return &Collector{size: size, name: name, parts: make([]string, (size+partSize-1)/partSize)}
	})
}

// Wanted returns the parts that are not there.
func (c *Collector) Wanted() []int {
	var out []int
	if c == nil || c.form != "" {
		return out
	}
	for k, s := range c.parts {
		if s == "" {
			out = append(out, k)
		}
	}
	return out
}

// Take takes a message with a part; done tells that the whole is there and proved.
func (c *Collector) Take(s string) (done bool, e api.Errno) {
	return attempt(func() bool {
		refuse(c == nil || c.size == 0, api.ErrInvalid)
		askLong(s)
		refuse(c.form != "", api.ErrState)
		m := readPart(s)
		refuse(m.kind != data, api.ErrKind)
		refuse(m.total != c.size, api.ErrSize)
		refuse(c.parts[m.part] != "", api.ErrDuplicate)
		c.parts[m.part] = m.data
		if len(c.Wanted()) > 0 {
			return false
		}
		whole := strings.Join(c.parts, "")
		clear(c.parts)
		if !hash.Check(whole, c.name) {
			c.tries++
			panic(api.ErrProof)
		}
		c.form = whole
		return true
	})
}

// Form returns the whole.
func (c *Collector) Form() (string, api.Errno) {
	if c == nil {
		return "", api.ErrInvalid
	}
	if c.form == "" {
		return "", api.ErrState
	}
	return c.form, api.OK
}

// Tries returns how often the whole was not proved.
func (c *Collector) Tries() int {
	if c == nil {
		return 0
	}
	return c.tries
}
