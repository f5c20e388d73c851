package files

import (
	"math"
	"strconv"
	"strings"

	"covey/api"
)

// Format writes a list, a line for each file.
func Format(l []api.File) string {
	if !Valid(l) {
		return ""
	}
	var b strings.Builder
	for _, f := range l {
		if f.Pad {
			b.WriteByte('*')
		}
		b.WriteString(strconv.Itoa(f.Length))
		b.WriteByte(' ')
		b.WriteString(strings.Join(f.Path, "/"))
		b.WriteByte('\n')
	}
	return b.String()
}

// length reads a number of any size; one that is too large for all lists is as good as any such.
func length(s string) (int, bool) {
	if s == "" || s[0] == '0' && len(s) > 1 {
		return 0, false
	}
	n := 0
	for i := range len(s) {
		if s[i] < '0' || s[i] > '9' {
			return 0, false
		}
		if n <= math.MaxInt/20 {
			n = 10*n + int(s[i]-'0')
		}
	}
	return n, true
}

func readLine(line string) (api.File, bool) {
	line, pad := strings.CutPrefix(line, "*")
	number, path, blank := strings.Cut(line, " ")
	n, ok := length(number)
	return api.File{Path: strings.Split(path, "/"), Length: n, Pad: pad}, ok && blank
}

// Parse reads a text that Format writes; line is the number of the first one that is wrong.
func Parse(text string) (l []api.File, line int, e api.Errno) {
	if len(text) > api.MaxText {
		return nil, 0, api.ErrLong
	}
	for text != "" {
		this, rest, whole := strings.Cut(text, "\n")
		f, ok := readLine(this)
		if !ok || !whole {
			return nil, line, api.ErrSyntax
		}
		l = append(l, f)
		text = rest
		line++
	}
	if !Valid(l) {
		return nil, line, api.ErrSyntax
	}
	return l, 0, api.OK
}
