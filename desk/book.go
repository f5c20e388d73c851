package desk

import (
	"strconv"
	"strings"

	"covey/api"
	"covey/hash"
)

const mostBook = 200000

// book are the lines that were done.
type book struct {
	lines []api.Line
}

// digits writes a sum in 16 digits.
func digits(sum uint64) string {
	s := strconv.FormatUint(sum, 16)
	return strings.Repeat("0", 16-len(s)) + s
}

// sum is the sum of a text behind another line.
func sum(before uint64, text string) uint64 {
	s := hash.Sum(digits(before) + " " + text)
	n := uint64(0)
	for i := range 8 {
		n = n<<8 | uint64(s[i])
	}
	return n
}

// next is the line of a text behind lines.
func next(l []api.Line, text string) api.Line {
	before := uint64(0)
	if len(l) > 0 {
		before = l[len(l)-1].Sum
	}
	return api.Line{Number: len(l), Text: text, Sum: sum(before, text)}
}

// write writes a line into the book.
func (b *book) write(text string) { b.lines = append(b.lines, next(b.lines, text)) }

// format writes a line as it stands in a book.
func format(l api.Line) string {
	return told(number(l.Number), digits(l.Sum), l.Text)
}

// Book returns the book.
func (d *Desk) Book() string {
	if d == nil {
		return ""
	}
	var b strings.Builder
	for _, l := range d.lines {
		b.WriteString(format(l))
		b.WriteByte('\n')
	}
	return b.String()
}

// Count returns how many lines the book has.
func (d *Desk) Count() int {
	if d == nil {
		return 0
	}
	return len(d.lines)
}

// read reads a line behind lines; false if it is wrong.
func read(l []api.Line, line string) (api.Line, bool) {
	_, rest, _ := strings.Cut(line, " ")
	_, text, _ := strings.Cut(rest, " ")
	x := next(l, text)
	return x, Valid(text) && format(x) == line
}

// Lines reads a book: the lines up to the first one that is wrong, or cut.
func Lines(book string) (l []api.Line, torn bool, e api.Errno) {
	if len(book) > mostBook {
		return nil, false, api.ErrLong
	}
	for book != "" {
		line, rest, whole := strings.Cut(book, "\n")
		if !whole {
			return l, true, api.OK
		}
		if len(l) >= api.MaxLines {
			return l, false, api.ErrLimit
		}
		x, right := read(l, line)
		if !right {
			return l, false, api.ErrSum
		}
		l = append(l, x)
		book = rest
	}
	return l, false, api.OK
}

// Replay makes a session, and does the lines of a book.
func Replay(book string) (*Desk, int, api.Errno) {
	l, _, e := Lines(book)
	if e != api.OK {
		return nil, 0, e
	}
	d := New()
	for _, x := range l {
		d.Do(x.Text)
	}
	return d, len(l), api.OK
}

// Parting returns how many first lines of two books are the same.
func Parting(a, b string) (same int, e api.Errno) {
	x, _, e := Lines(a)
	if e != api.OK {
		return 0, e
	}
	y, _, e := Lines(b)
	if e != api.OK {
		return 0, e
	}
	for same < min(len(x), len(y)) && x[same] == y[same] {
		same++
	}
	return same, api.OK
}
