package benc

import (
	"math"

	"covey/api"
)

// stop is what leaves a reader: the first wrong byte, and why.
type stop struct {
	bad int
	e   api.Errno
}

// reader reads a canonical form from the front of a text.
type reader struct {
	s     string
	at    int
	count int
}

// need leaves with ErrSyntax at the present byte if it is not right.
func (r *reader) need(right bool) {
	if !right {
		panic(stop{r.at, api.ErrSyntax})
	}
}

// byte is the present byte; the text's end is wrong there.
func (r *reader) byte() byte {
	r.need(r.at < len(r.s))
	return r.s[r.at]
}

func digit(c byte) bool { return c >= '0' && c <= '9' }

// text reads a text, a key as well.
func (r *reader) text() string {
	r.need(digit(r.byte()))
	n, zero := 0, false
	for r.byte() != ':' {
		c := r.byte()
		r.need(digit(c) && !zero)
		first := n == 0
		n = 10*n + int(c-'0')
		r.need(n <= api.MaxText)
		zero = first && c == '0'
		r.at++
	}
	r.at++
	if n > len(r.s)-r.at {
		panic(stop{len(r.s), api.ErrSyntax})
	}
	r.at += n
	return r.s[r.at-n : r.at]
}

// number reads a number behind its `i`.
func (r *reader) number() int {
	minus := r.byte() == '-'
	if minus {
		r.at++
	}
	most := uint64(math.MaxInt64)
	if minus {
		most++
	}
	c := r.byte()
	r.need(digit(c) && !(minus && c == '0'))
	zero := c == '0'
	n := uint64(c - '0')
	r.at++
	for r.byte() != 'e' {
		c = r.byte()
		r.need(digit(c) && !zero)
		d := uint64(c - '0')
		r.need(n <= (most-d)/10)
		n = 10*n + d
		r.at++
	}
	r.at++
	if minus {
		return int(-n)
	}
	return int(n)
}

// value reads a value of a level.
func (r *reader) value(level int) api.Value {
	c := r.byte()
	r.need(c == 'i' || c == 'l' || c == 'd' || digit(c))
	r.count++
	if level > api.MaxDeep || r.count > api.MaxItems {
		panic(stop{r.at, api.ErrLimit})
	}
	if digit(c) {
		return Text(r.text())
	}
	r.at++
	switch c {
	case 'i':
		return Int(r.number())
	case 'l':
		return r.list(level)
	}
	return r.dict(level)
}

// ends reports whether a list or dictionary ends here.
func (r *reader) ends() bool {
	if r.byte() != 'e' {
		return false
	}
	r.at++
	return true
}

func (r *reader) list(level int) api.Value {
	v := api.Value{Kind: api.BList}
	for !r.ends() {
		v.Kids = append(v.Kids, r.value(level+1))
	}
	return v
}

func (r *reader) dict(level int) api.Value {
	v := api.Value{Kind: api.BDict}
	for !r.ends() {
		from := r.at
		key := r.text()
		if n := len(v.Keys); n > 0 && v.Keys[n-1] >= key {
			panic(stop{from, api.ErrSyntax})
		}
		v.Keys = append(v.Keys, key)
		v.Kids = append(v.Kids, r.value(level+1))
	}
	return v
}

// Read reads a value at the beginning of a text.
func Read(s string) (v api.Value, used, bad int, e api.Errno) {
	if len(s) > api.MaxText {
		return api.Value{}, 0, 0, api.ErrLong
	}
	defer func() {
		if x := recover(); x != nil {
			v, used, bad, e = api.Value{}, 0, 0, api.ErrInvalid
			if told, ok := x.(stop); ok {
				bad, e = told.bad, told.e
			}
		}
	}()
	r := &reader{s: s}
	v = r.value(1)
	return v, r.at, -1, api.OK
}
