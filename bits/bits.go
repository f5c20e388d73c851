// Package bits has fields of bits: which pieces someone has.
package bits

import (
	"iter"
	"strconv"
	"strings"

	"covey/api"
)

// attempt runs f and tells the Errno that left it by a panic.
func attempt[T any](f func() T) (out T, e api.Errno) {
	defer func() {
		if x := recover(); x != nil {
			var none T
			out, e = none, api.ErrInvalid
			if told, ok := x.(api.Errno); ok {
				e = told
			}
		}
	}()
	return f(), api.OK
}

// refuse leaves by a panic if something is wrong.
func refuse(wrong bool, e api.Errno) {
	if wrong {
		panic(e)
	}
}

// size is how many bytes a field of n bits has.
func size(n int) int { return (n + 7) / 8 }

func isSet(s string, i int) bool { return s[i/8]&(128>>(i%8)) != 0 }

// mask has the bits of the byte number at of a field that are not spare.
func mask(n, at int) byte {
	left := n - 8*at
	if left >= 8 {
		return 255
	}
	return byte(0xff << (8 - left))
}

// set yields the numbers of the bits that are set, ascending.
func set(n int, s string) iter.Seq[int] {
	return func(yield func(int) bool) {
		for i := range n {
			if isSet(s, i) && !yield(i) {
				return
			}
		}
	}
}

func askSize(n int) { refuse(n < 0 || n > api.MaxBits, api.ErrRange) }

func askField(n int, s string) {
	askSize(n)
	refuse(!Valid(n, s), api.ErrInvalid)
}

// build makes a field from the numbers that are set.
func build(n int, put func(b []byte)) string {
	b := make([]byte, size(n))
	put(b)
	return string(b)
}

func raise(b []byte, i int) { b[i/8] |= 128 >> (i % 8) }

// New is the field without bits that are set.
func New(n int) (string, api.Errno) {
	return attempt(func() string {
		askSize(n)
		return build(n, func([]byte) {})
	})
}

// Full is the field with all bits set.
func Full(n int) (string, api.Errno) {
	return attempt(func() string {
		askSize(n)
		return build(n, func(b []byte) {
			for at := range b {
				b[at] = mask(n, at)
			}
		})
	})
}

// Valid reports whether s is a field of n bits.
func Valid(n int, s string) bool {
	_, e := Wrong(n, s)
	return e == api.OK
}

// Wrong returns the first thing that is wrong with a field.
func Wrong(n int, s string) (at int, e api.Errno) {
	if n < 0 || n > api.MaxBits {
		return 0, api.ErrRange
	}
	if len(s) < size(n) {
		return len(s), api.ErrSize
	}
	if len(s) > size(n) {
		return size(n), api.ErrSize
	}
	for i := n; i < 8*len(s); i++ {
		if isSet(s, i) {
			return i, api.ErrData
		}
	}
	return -1, api.OK
}

// Has tells a bit.
func Has(n int, s string, i int) (bool, api.Errno) {
	return attempt(func() bool {
		askField(n, s)
		refuse(i < 0 || i >= n, api.ErrRange)
		return isSet(s, i)
	})
}

// Set returns the field with one bit as it is told.
func Set(n int, s string, i int, to bool) (string, api.Errno) {
	return attempt(func() string {
		askField(n, s)
		refuse(i < 0 || i >= n, api.ErrRange)
		b := []byte(s)
		b[i/8] &^= 128 >> (i % 8)
		if to {
			raise(b, i)
		}
		return string(b)
	})
}

// Count counts the bits that are set.
func Count(n int, s string) (int, api.Errno) { return Rank(n, s, n) }

// List returns the numbers of the bits that are set.
func List(n int, s string) ([]int, api.Errno) {
	return attempt(func() []int {
		askField(n, s)
		var l []int
		for i := range set(n, s) {
			l = append(l, i)
		}
		return l
	})
}

// Of returns the field of numbers.
func Of(n int, l []int) (string, api.Errno) {
	return attempt(func() string {
		askSize(n)
		return build(n, func(b []byte) {
			for _, i := range l {
				refuse(i < 0 || i >= n, api.ErrRange)
				refuse(b[i/8]&(128>>(i%8)) != 0, api.ErrDuplicate)
				raise(b, i)
			}
		})
	})
}

// Not turns all bits round.
func Not(n int, s string) (string, api.Errno) {
	return attempt(func() string {
		askField(n, s)
		return build(n, func(b []byte) {
			for at := range b {
				b[at] = ^s[at] & mask(n, at)
			}
		})
	})
}

// The ways of joining two fields.
const (
	both = iota
	either
	first
)

// joiners are the functions that join two bytes, by the way of joining.
func joiners() [3]func(a, b byte) byte {
	return [3]func(a, b byte) byte{
		both:   func(a, b byte) byte { return a & b },
		either: func(a, b byte) byte { return a | b },
		first:  func(a, b byte) byte { return a &^ b },
	}
}

// join joins two fields byte by byte; the first one is asked first.
func join(n int, a, b string, f func(a, b byte) byte) (string, api.Errno) {
	return attempt(func() string {
		askField(n, a)
		askField(n, b)
		return build(n, func(out []byte) {
			for at := range out {
				out[at] = f(a[at], b[at])
			}
		})
	})
}

// And returns the bits that both fields have.
func And(n int, a, b string) (string, api.Errno) { return join(n, a, b, joiners()[both]) }

// Or returns the bits that one of the fields has.
func Or(n int, a, b string) (string, api.Errno) { return join(n, a, b, joiners()[either]) }

// Without returns the bits of a that b has not.
func Without(n int, a, b string) (string, api.Errno) { return join(n, a, b, joiners()[first]) }

// Next returns the first bit that is set from a number on.
func Next(n int, s string, from int) (int, api.Errno) {
	return attempt(func() int {
		askField(n, s)
		refuse(from < 0 || from > n, api.ErrRange)
		for i := range set(n, s) {
			if i >= from {
				return i
			}
		}
		panic(api.ErrNone)
	})
}

// Rank returns how many bits below i are set.
func Rank(n int, s string, i int) (int, api.Errno) {
	return attempt(func() int {
		askField(n, s)
		refuse(i < 0 || i > n, api.ErrRange)
		count := 0
		for range set(i, s) {
			count++
		}
		return count
	})
}

// Select returns the bit number k of those that are set.
func Select(n int, s string, k int) (int, api.Errno) {
	return attempt(func() int {
		askField(n, s)
		refuse(k < 0, api.ErrRange)
		for i := range set(n, s) {
			if k == 0 {
				return i
			}
			k--
		}
		panic(api.ErrNone)
	})
}

// Runs returns the bits that are set as runs, as few as possible.
func Runs(n int, s string) ([]api.Run, api.Errno) {
	return attempt(func() []api.Run {
		askField(n, s)
		return runs(n, s)
	})
}

func runs(n int, s string) []api.Run {
	var l []api.Run
	for i := range set(n, s) {
		last := len(l) - 1
		if last >= 0 && l[last].From+l[last].Count == i {
			l[last].Count++
			continue
		}
		l = append(l, api.Run{From: i, Count: 1})
	}
	return l
}

// FromRuns returns the field of runs.
func FromRuns(n int, l []api.Run) (string, api.Errno) {
	return attempt(func() string {
		askSize(n)
		end := 0
		return build(n, func(b []byte) {
			for _, r := range l {
				refuse(r.Count < 1 || r.From < 0 || r.From > n || r.Count > n-r.From, api.ErrRange)
				refuse(r.From < end, api.ErrDuplicate)
				end = r.From + r.Count
				for i := r.From; i < end; i++ {
					raise(b, i)
				}
			}
		})
	})
}

// Text writes the runs of a field.
func Text(n int, s string) (string, api.Errno) {
	return attempt(func() string {
		askField(n, s)
		return text(n, s)
	})
}

func text(n int, s string) string {
	var b strings.Builder
	for i, r := range runs(n, s) {
		if i > 0 {
			b.WriteByte(',')
		}
		b.WriteString(strconv.Itoa(r.From))
		if r.Count > 1 {
			b.WriteByte('-')
			b.WriteString(strconv.Itoa(r.From + r.Count - 1))
		}
	}
	return b.String()
}

// number reads a decimal number below n.
func number(s string, n int) int {
	refuse(len(s) == 0 || len(s) > 4, api.ErrSyntax)
	v := 0
	for i := range len(s) {
		refuse(s[i] < '0' || s[i] > '9', api.ErrSyntax)
		v = 10*v + int(s[i]-'0')
	}
	refuse(v >= n, api.ErrSyntax)
	return v
}

// Parse reads a text that Text writes.
func Parse(n int, s string) (string, api.Errno) {
	return attempt(func() string {
		askSize(n)
		refuse(len(s) > api.MaxText, api.ErrLong)
		if s == "" {
			return build(n, func([]byte) {})
		}
		out := build(n, func(b []byte) {
			for _, part := range strings.Split(s, ",") {
				from, to, _ := strings.Cut(part, "-")
				a := number(from, n)
				z := a
				if len(from) < len(part) {
					z = number(to, n)
				}
				for i := a; i <= z; i++ {
					raise(b, i)
				}
			}
		})
		// A text that is read but not written so is none: order, touching runs, leading zeros.
		refuse(text(n, out) != s, api.ErrSyntax)
		return out
	})
}
