package wire

import (
	"iter"

	"covey/api"
)

// bytes reads a message's bytes in order; ones that lack are ErrNone.
type bytes struct {
	s  string
	at int
}

// take takes so many bytes.
func (r *bytes) take(n int) string {
	if len(r.s)-r.at < n {
		panic(stop{len(r.s), api.ErrNone})
	}
	r.at += n
	return r.s[r.at-n : r.at]
}

// number takes a number of so many bytes.
func (r *bytes) number(size int) int {
	n := 0
	s := r.take(size)
	for i := range size {
		n = n<<8 | int(s[i])
	}
	return n
}

// askLength leaves if what is there can't begin a length that a message may have.
func askLength(s string) {
	for at := range min(len(s), 3) {
		if at < 2 && s[at] != 0 || at == 2 && s[at] > mostLength>>8 {
			panic(stop{0, api.ErrData})
		}
	}
}

func decode(s string) read[api.Msg] {
	askLength(s)
	r := &bytes{s: s}
	size := r.number(4)
	if size > mostLength {
		panic(stop{0, api.ErrData})
	}
	if size == 0 {
		return read[api.Msg]{api.Msg{Kind: api.MKeep}, r.at}
	}
	kind, ok := kindOf(r.take(1)[0])
	if !ok {
		panic(stop{4, api.ErrData})
	}
	m := api.Msg{Kind: kind}
	f := forms()[kind]()
	data := size - f.head()
	if !f.fits(data) {
		panic(stop{0, api.ErrData})
	}
	if f.root {
		m.Root = r.take(api.NewSize)
	}
	for _, x := range f.fields {
		from := r.at
		n := r.number(x.size)
		if n < x.least || n > x.most {
			panic(stop{from, api.ErrData})
		}
		*x.at(&m) = n
	}
	m.Data = r.take(data)
	return read[api.Msg]{m, r.at}
}

// Decode reads a message from the front.
func Decode(s string) (m api.Msg, used, bad int, e api.Errno) {
	return front(s, func() read[api.Msg] { return decode(s) })
}

// waiting is a message that is not taken yet, and its size.
type waiting struct {
	m    api.Msg
	size int
}

// queue are the messages that wait.
type queue struct{ l []waiting }

// each yields the messages that wait.
func (q *queue) each() iter.Seq[waiting] {
	return func(yield func(waiting) bool) {
		for _, w := range q.l {
			if !yield(w) {
				return
			}
		}
	}
}

// bytes is how many bytes the messages that wait have.
func (q *queue) bytes() int {
	n := 0
	for w := range q.each() {
		n += w.size
	}
	return n
}

// Reader takes bytes in pieces of any sizes.
type Reader struct {
	queue
	greet, greeted bool
	hello          api.Hello
	part           string
	whole          int
	bad            bool
	wrong          int
}

// New makes a reader; with greet it expects a handshake first.
func New(greet bool) *Reader { return &Reader{greet: greet} }

// use takes bytes that were read out of what is not whole.
func (r *Reader) use(n int) {
	r.part = r.part[n:]
	r.whole += n
}

// step reads what is next, and tells how it went.
func (r *Reader) step() (bad int, e api.Errno) {
	if r.greet && !r.greeted {
		h, used, bad, e := ReadHello(r.part)
		if e == api.OK {
			r.hello, r.greeted = h, true
			r.use(used)
		}
		return bad, e
	}
	m, used, bad, e := Decode(r.part)
	if e == api.OK {
		r.l = append(r.l, waiting{m, used})
		r.use(used)
	}
	return bad, e
}

// Feed takes bytes.
func (r *Reader) Feed(s string) api.Errno {
	_, e := attempt(func() bool {
		refuse(r == nil, api.ErrInvalid)
		refuse(len(s) > api.MaxText, api.ErrLong)
		refuse(r.bad, api.ErrData)
		refuse(r.bytes()+len(r.part)+len(s) > api.MaxText, api.ErrLimit)
		r.part += s
		for {
			bad, e := r.step()
			if e == api.ErrNone {
				return true
			}
			if e != api.OK {
				r.bad, r.wrong, r.part = true, r.whole+bad, ""
				panic(api.ErrData)
			}
		}
	})
	return e
}

// Hello tells the handshake, when it is there.
func (r *Reader) Hello() (api.Hello, bool) {
	if r == nil {
		return api.Hello{}, false
	}
	return r.hello, r.greeted
}

// Next takes the next message.
func (r *Reader) Next() (api.Msg, bool) {
	if r == nil || len(r.l) == 0 {
		return api.Msg{}, false
	}
	m := r.l[0].m
	r.l = r.l[1:]
	return m, true
}

// Waiting returns how many whole messages are not taken yet.
func (r *Reader) Waiting() int {
	if r == nil {
		return 0
	}
	return len(r.l)
}

// Left returns how many bytes there are of what is not whole.
func (r *Reader) Left() int {
	if r == nil {
		return 0
	}
	return len(r.part)
}

// Wrong returns how many bytes came ahead of the wrong byte; -1 if none is wrong.
func (r *Reader) Wrong() int {
	if r == nil || !r.bad {
		return -1
	}
	return r.wrong
}
