// Package flow is the transport: two ends of a connection that send packets, and deliver what was written, once and in order.
package flow

import (
	"covey/api"
	"covey/hash"
)

const (
	round      = 65536
	half       = round / 2
	most32     = 1<<32 - 1
	mostWindow = 1000000
	mostMarks  = 4
	firstMark  = 2
	lastMark   = firstMark + 8*mostMarks - 1

	sumSize  = 4
	kindAt   = sumSize
	marksAt  = kindAt + 1
	windowAt = 20
	headSize = 24
)

// attempt runs f and tells the Errno that left it by a panic.
func attempt[T any](f func() T) (out T, e api.Errno) {
	defer func() {
		if x := recover(); x != nil {
			var none T
			out, e = none, api.ErrInvalid
			if told, ok := x.(api.Errno); ok {
				e = told
			}
		}
	}()
	return f(), api.OK
}

// refuse leaves by a panic if something is wrong.
func refuse(wrong bool, e api.Errno) {
	if wrong {
		panic(e)
	}
}

func within(n, least, most int) bool { return n >= least && n <= most }

func isNumber(n int) bool { return within(n, 0, round-1) }

// turn brings a number on the circle of 16 bits.
func turn(n int) int { return n & (round - 1) }

// Valid reports whether a packet is valid.
func Valid(p api.Segment) bool {
	return within(p.Kind, api.FOpen, api.FReset) && isNumber(p.Conn) && isNumber(p.Seq) && isNumber(p.Ack) && within(p.Window, 0, mostWindow) &&
		within(p.Time, 0, most32) && within(p.Late, 0, most32) && len(p.Marks) <= mostMarks && len(p.Body) <= api.MaxBody && (p.Body != "") == (p.Kind == api.FData)
}

// put writes a number in so many bytes.
func put(b []byte, n, size int) []byte {
	for i := size - 1; i >= 0; i-- {
		b = append(b, byte(n>>(8*i)))
	}
	return b
}

// Encode writes a packet.
func Encode(p api.Segment) (string, api.Errno) {
	return attempt(func() string {
		refuse(!Valid(p), api.ErrInvalid)
		b := []byte{byte(p.Kind), byte(len(p.Marks))}
		for _, n := range []int{p.Conn, p.Seq, p.Ack} {
			b = put(b, n, 2)
		}
		for _, n := range []int{p.Time, p.Late, p.Window} {
			b = put(b, n, 4)
		}
		rest := string(b) + p.Marks + p.Body
		return hash.Sum(rest)[:sumSize] + rest
	})
}

// stop is what leaves a reader: the first wrong byte.
type stop struct{ at int }

// need leaves at a byte if it is not right.
func need(right bool, at int) {
	if !right {
		panic(stop{at})
	}
}

// read reads a number of so many bytes.
func read(s string, at, size int) int {
	n := 0
	for i := range size {
		n = n<<8 | int(s[at+i])
	}
	return n
}

func decode(s string) api.Segment {
	need(len(s) >= headSize, len(s))
	kind, marks := int(s[kindAt]), int(s[marksAt])
	bodyAt := headSize + min(marks, mostMarks)
	need(len(s) >= bodyAt && (kind != api.FData || len(s) > bodyAt), len(s))
	need(hash.Sum(s[sumSize:])[:sumSize] == s[:sumSize], 0)
	need(within(kind, api.FOpen, api.FReset), kindAt)
	need(marks <= mostMarks, marksAt)
	p := api.Segment{Kind: kind, Conn: read(s, 6, 2), Seq: read(s, 8, 2), Ack: read(s, 10, 2), Time: read(s, 12, 4), Late: read(s, 16, 4), Window: read(s, windowAt, 4)}
	need(p.Window <= mostWindow, windowAt)
	p.Marks, p.Body = s[headSize:bodyAt], s[bodyAt:]
	need(p.Body == "" || kind == api.FData, bodyAt)
	need(len(p.Body) <= api.MaxBody, bodyAt+api.MaxBody)
	return p
}

// Decode reads a packet; at is the first byte that is wrong.
func Decode(bytes string) (p api.Segment, at int, e api.Errno) {
	if len(bytes) > api.MaxText {
		return api.Segment{}, 0, api.ErrInvalid
	}
	defer func() {
		if x := recover(); x != nil {
			p, at, e = api.Segment{}, 0, api.ErrData
			if told, ok := x.(stop); ok {
				at = told.at
			}
		}
	}()
	return decode(bytes), 0, api.OK
}

func before(a, b int) bool { return within(turn(b-a), 1, half-1) }

// Before tells whether a number is before another one on the circle.
func Before(a, b int) (bool, api.Errno) {
	return attempt(func() bool {
		refuse(!isNumber(a) || !isNumber(b), api.ErrRange)
		return before(a, b)
	})
}

// mark sets the marks for packets that are beyond an Ack by so much.
func mark(beyond []int) string {
	var b [mostMarks]byte
	n := 0
	for _, d := range beyond {
		i := d - firstMark
		b[i/8] |= 1 << (i % 8)
		n = max(n, i/8+1)
	}
	return string(b[:n])
}

// Marked returns the marks for packets that came beyond an Ack.
func Marked(ack int, came []int) (marks string, e api.Errno) {
	return attempt(func() string {
		refuse(!isNumber(ack), api.ErrRange)
		var beyond []int
		for _, n := range came {
			d := turn(n - ack)
			refuse(!isNumber(n) || !within(d, firstMark, lastMark), api.ErrRange)
			beyond = append(beyond, d)
		}
		return mark(beyond)
	})
}

// named returns by how much the packets that marks name are beyond an Ack.
func named(marks string) []int {
	var out []int
	for i := range 8 * len(marks) {
		if marks[i/8]&(1<<(i%8)) != 0 {
			out = append(out, firstMark+i)
		}
	}
	return out
}

// Named returns the numbers that marks name.
func Named(ack int, marks string) ([]int, api.Errno) {
	return attempt(func() []int {
		refuse(!isNumber(ack), api.ErrRange)
		refuse(len(marks) > mostMarks, api.ErrSize)
		var out []int
		for _, d := range named(marks) {
			out = append(out, turn(ack+d))
		}
		return out
	})
}
