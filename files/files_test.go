package files

import (
	"math"
	"reflect"
	"slices"
	"strings"
	"testing"

	"covey/api"
)

func file(n int, path ...string) api.File { return api.File{Path: path, Length: n} }

func padOf(n int, name string) api.File {
	return api.File{Path: []string{".pad", name}, Length: n, Pad: true}
}

func lists() [][]api.File {
	return [][]api.File{
		{file(20, "a"), file(5, "b")},
		{file(0, "a")},
		{file(0, "a"), file(0, "b"), file(16, "c"), file(0, "d"), file(17, "e")},
		{file(20, "a"), padOf(12, "12"), file(5, "b")},
		{file(1, "x", "y", "z"), file(0, "x", "q"), padOf(3, "3"), padOf(3, "3"), file(100, "x", "y", "w"), file(0, "last")},
		{file(65536, "big")},
		{file(33, "a"), file(31, "b"), file(64, "c"), file(1, "d")},
	}
}

func data(l []api.File) []string {
	var out []string
	k := 0
	for _, f := range l {
		b := make([]byte, f.Length)
		for i := range b {
			k++
			b[i] = byte(k*k + k/7)
		}
		if f.Pad {
			b = nil
		}
		out = append(out, string(b))
	}
	return out
}

func TestP51Errors(t *testing.T) {
	many := make([]api.File, 41)
	for i := range many {
		many[i] = file(1, strings.Repeat("x", i%40+1), "y")
	}
	long := strings.Repeat("x", 41)
	for _, c := range []struct {
		l  []api.File
		at int
		e  api.Errno
	}{
		{nil, 0, api.ErrLimit}, {many, 0, api.ErrLimit}, {[]api.File{file(1)}, 0, api.ErrName}, {[]api.File{file(1, "")}, 0, api.ErrName},
		{[]api.File{file(1, "a"), file(1, ".")}, 1, api.ErrName}, {[]api.File{file(1, "..")}, 0, api.ErrName}, {[]api.File{file(1, "a/b")}, 0, api.ErrName},
		{[]api.File{file(1, "a\\b")}, 0, api.ErrName}, {[]api.File{file(1, "a\x1f")}, 0, api.ErrName}, {[]api.File{file(1, "a\x7f")}, 0, api.ErrName},
		{[]api.File{file(1, long)}, 0, api.ErrName}, {[]api.File{file(1, "1", "2", "3", "4", "5", "6", "7", "8", "9")}, 0, api.ErrName},
		{[]api.File{file(1, "1", "2", "3", "4", "5", "6", "7", "8")}, -1, api.OK}, {[]api.File{file(1, "\x80 ")}, -1, api.OK},
		{[]api.File{file(1, ".pad", "1")}, 0, api.ErrName}, {[]api.File{file(1, ".pad")}, 0, api.ErrName},
		{[]api.File{file(-1, "a")}, 0, api.ErrRange}, {[]api.File{file(65537, "a")}, 0, api.ErrRange}, {[]api.File{file(math.MaxInt, "a"), file(math.MaxInt, "b")}, 0, api.ErrRange},
		{[]api.File{file(1, "a"), padOf(2, "3"), file(1, "b")}, 1, api.ErrName}, {[]api.File{file(1, "a"), padOf(0, "0"), file(1, "b")}, 1, api.ErrRange},
		{[]api.File{file(1, "a"), padOf(0, "1"), file(1, "b")}, 1, api.ErrName}, {[]api.File{file(1, "a"), padOf(2, "02"), file(1, "b")}, 1, api.ErrName},
		{[]api.File{file(1, "a"), file(1, "a")}, 1, api.ErrDuplicate}, {[]api.File{file(1, "a"), file(1, "b"), file(1, "a", "c")}, 2, api.ErrDuplicate},
		{[]api.File{file(1, "a", "b", "c"), file(1, "a", "b")}, 1, api.ErrDuplicate}, {[]api.File{file(1, "ab"), file(1, "a", "b")}, -1, api.OK},
		{[]api.File{padOf(2, "2"), file(1, "a")}, 0, api.ErrState}, {[]api.File{file(1, "a"), padOf(2, "2")}, 1, api.ErrState},
		{[]api.File{file(65536, "a"), file(0, "b"), file(1, "c")}, 2, api.ErrSize}, {[]api.File{file(65536, "a"), file(65537, "c")}, 1, api.ErrRange},
		{[]api.File{file(1, "a"), file(1, "a"), file(-1, "")}, 1, api.ErrDuplicate},
	} {
		if at, e := Wrong(c.l); at != c.at || e != c.e || Valid(c.l) != (e == api.OK) {
			t.Error(c.l, at, e)
		}
	}
	bad := []api.File{file(1, "")}
	if _, e := Total(bad); e != api.ErrInvalid {
		t.Error("Total", e)
	}
	if _, e := Align(bad, 3); e != api.ErrInvalid {
		t.Error("Align", e)
	}
	l := lists()[0]
	for _, p := range []int{0, -16, 8, 15, 17, 24, 2048, math.MinInt, math.MaxInt} {
		if Piece(p) {
			t.Error("Piece", p)
		}
		if _, e := Pieces(l, p, true); e != api.ErrRange {
			t.Error("Pieces", p, e)
		}
		if _, e := Aligned(l, p); e != api.ErrRange {
			t.Error("Aligned", p, e)
		}
	}
	for _, i := range []int{-1, 2, math.MaxInt, math.MinInt} {
		if _, e := Size(l, 16, false, i); e != api.ErrRange {
			t.Error("Size", i, e)
		}
		if _, e := Of(l, 16, false, i); e != api.ErrRange {
			t.Error("Of", i, e)
		}
		if _, e := Cover(l, 16, false, []int{0, i}); e != api.ErrRange {
			t.Error("Cover", i, e)
		}
		if _, _, e := Where(l, 16, false, i, 0); e != api.ErrRange {
			t.Error("Where", i, e)
		}
	}
	d := data(l)
	for _, c := range []struct {
		d []string
		s []api.Span
		e api.Errno
	}{
		{d[:1], nil, api.ErrSize}, {[]string{"x", d[1]}, nil, api.ErrSize}, {d, []api.Span{{File: 2}}, api.ErrRange}, {d, []api.Span{{File: 0, From: 21}}, api.ErrRange},
		{d, []api.Span{{File: 0, From: 20}}, api.OK}, {d, []api.Span{{File: 0, From: 1, Count: 20}}, api.ErrRange}, {d, []api.Span{{File: 0, From: math.MaxInt, Count: math.MaxInt}}, api.ErrRange},
		{d, []api.Span{{File: 0, From: -1, Count: 3}}, api.ErrRange}, {d, []api.Span{{File: 0, From: 1, Count: -1}}, api.ErrRange},
		{d, slices.Repeat([]api.Span{{File: 0, Count: 20}}, 3277), api.ErrLimit},
	} {
		if s, e := Read(l, c.d, c.s); s != "" || e != c.e {
			t.Error("Read", c.s[:min(1, len(c.s))], e)
		}
	}
	p := lists()[3]
	if s, e := Read(p, []string{strings.Repeat("a", 20), "twelve bytes", "12345"}, []api.Span{{File: 1, From: 3, Count: 2}, {File: 2, Count: 2}}); s != "\x00\x0012" || e != api.OK {
		t.Errorf("%q %d", s, e)
	}
}

func TestP52Row(t *testing.T) {
	for _, l := range lists() {
		d := data(l)
		for _, piece := range []int{16, 32, 1024} {
			for _, new := range []bool{false, true} {
				want := ""
				for i, f := range l {
					if f.Pad && !new {
						want += strings.Repeat("\x00", f.Length)
					}
					want += d[i]
				}
				got := ""
				n, _ := Pieces(l, piece, new)
				for i := range n {
					s, e := Spans(l, piece, new, i)
					text, f := Read(l, d, s)
					size, g := Size(l, piece, new, i)
					if e != api.OK || f != api.OK || g != api.OK || len(text) != size || size < 1 || size > piece || !new && i < n-1 && size != piece {
						t.Error("Size", i, size)
					}
					for _, x := range s {
						if x.Count < 1 || new && (l[x.File].Pad || len(s) != 1) {
							t.Error("Spans", x)
						}
					}
					got += text
				}
				if got != want {
					t.Error("row", l[0].Path, piece, new)
				}
			}
		}
	}
	if n, _ := Pieces(lists()[0], 16, true); n != 3 {
		t.Error("new", n)
	}
	if n, _ := Pieces(lists()[1], 16, true); n != 0 {
		t.Error("empty", n)
	}
	if n, _ := Total(lists()[3]); n != 37 {
		t.Error("Total", n)
	}
}

func TestP53TwoWays(t *testing.T) {
	for _, l := range lists() {
		for _, piece := range []int{16, 64} {
			a, e := Align(l, piece)
			if e != api.OK {
				continue
			}
			d := data(a)
			n, _ := Pieces(a, piece, false)
			m, _ := Pieces(a, piece, true)
			if n != m {
				t.Error("Pieces", n, m)
			}
			for i := range n {
				s, _ := Spans(a, piece, false, i)
				r, _ := Spans(a, piece, true, i)
				if !slices.Equal(s[:1], r) || len(s) > 2 || len(s) == 2 && !a[s[1].File].Pad {
					t.Error("Spans", s, r)
				}
				x, _ := Read(a, d, s)
				y, _ := Read(a, d, r)
				if strings.TrimRight(x[len(y):], "\x00") != "" || x[:len(y)] != y {
					t.Error("Read")
				}
			}
		}
	}
}

func TestP54Aligned(t *testing.T) {
	for _, l := range lists() {
		for _, piece := range []int{16, 64, 1024} {
			a, e := Align(l, piece)
			if e != api.OK {
				t.Error("Align", e)
			}
			if ok, e := Aligned(a, piece); !ok || e != api.OK || !Valid(a) {
				t.Error("Aligned", a)
			}
			x, _ := Bare(a)
			y, _ := Bare(l)
			if !reflect.DeepEqual(x, y) {
				t.Error("Bare", x, y)
			}
			if again, _ := Align(a, piece); !reflect.DeepEqual(again, a) {
				t.Error("twice")
			}
			row := 0
			for i, f := range a {
				if f.Pad && (a[i+1].Pad || a[i+1].Length == 0 || f.Length >= piece) || !f.Pad && f.Length > 0 && row%piece != 0 {
					t.Error("pads", a)
				}
				row += f.Length
			}
		}
	}
	for i, want := range []bool{false, true, true, true, false, true, false} {
		if ok, _ := Aligned(lists()[i], 16); ok != want {
			t.Error("Aligned", i)
		}
	}
	if _, e := Align([]api.File{file(1, "a"), file(65535, "b")}, 16); e != api.ErrLimit {
		t.Error("Align", e)
	}
	var many []api.File
	for i := range 21 {
		many = append(many, file(1, string(rune('a'+i))))
	}
	if _, e := Align(many, 16); e != api.ErrLimit {
		t.Error("Align", e)
	}
	if a, e := Align(many[:20], 16); len(a) != 39 || e != api.OK {
		t.Error("Align", e)
	}
}

func TestP55Back(t *testing.T) {
	for _, l := range lists() {
		got, line, e := Parse(Format(l))
		if !reflect.DeepEqual(got, l) || line != 0 || e != api.OK {
			t.Error(Format(l), line, e)
		}
		for _, new := range []bool{false, true} {
			n, _ := Pieces(l, 16, new)
			for i := range n {
				begin := 0
				spans, _ := Spans(l, 16, new, i)
				for _, s := range spans {
					for k := range s.Count {
						p, b, e := Where(l, 16, new, s.File, s.From+k)
						if p != i || b != begin || e != api.OK {
							t.Error("Where", s, k, p, b, e)
						}
						begin++
					}
					r, _ := Of(l, 16, new, s.File)
					c, _ := Cover(l, 16, new, []int{s.File, s.File})
					if i < r.From || i >= r.From+r.Count || len(c) != r.Count || c[0] != r.From {
						t.Error("Of", r, i, c)
					}
				}
			}
		}
	}
	p := lists()[3]
	if _, _, e := Where(p, 16, true, 1, 0); e != api.ErrKind {
		t.Error("Where", e)
	}
	if _, _, e := Where(p, 16, true, 1, 12); e != api.ErrRange {
		t.Error("Where", e)
	}
	if r, e := Of(p, 16, true, 1); r != (api.Run{}) || e != api.OK {
		t.Error("Of", r, e)
	}
	if c, _ := Cover(lists()[0], 16, false, []int{1, 0}); !slices.Equal(c, []int{0, 1}) {
		t.Error("Cover", c)
	}
	if Format([]api.File{file(1, "")}) != "" {
		t.Error("Format of what is not valid")
	}
	if s := Format(p); s != "20 a\n*12 .pad/12\n5 b\n" {
		t.Error("Format", s)
	}
	for _, c := range []struct {
		s    string
		line int
		e    api.Errno
	}{
		{"", 0, api.ErrSyntax}, {"1 a", 0, api.ErrSyntax}, {"1 a\n01 b\n", 1, api.ErrSyntax}, {"1 a\n1b\n", 1, api.ErrSyntax}, {"1 a\n-1 b\n", 1, api.ErrSyntax},
		{"1 a\n1 a\n", 2, api.ErrSyntax}, {"99999999999999999999999999 a\n", 1, api.ErrSyntax}, {"1 \n", 1, api.ErrSyntax}, {"1 a\n\n", 1, api.ErrSyntax},
		{"*1 .pad/1\n", 1, api.ErrSyntax}, {"**1 a\n", 0, api.ErrSyntax}, {" a\n", 0, api.ErrSyntax}, {strings.Repeat("x", 65537), 0, api.ErrLong},
	} {
		if l, line, e := Parse(c.s); len(l) != 0 || line != c.line || e != c.e {
			t.Error("Parse", c.s[:min(20, len(c.s))], line, e)
		}
	}
}

func TestFolders(t *testing.T) {
	l := lists()[4]
	if i, e := Find(l, "x/q"); i != 1 || e != api.OK {
		t.Error("Find", i, e)
	}
	if i, e := Find(l, ".pad/3"); i != 2 || e != api.OK {
		t.Error("Find", i, e)
	}
	if _, e := Find(l, "x"); e != api.ErrNone {
		t.Error("Find", e)
	}
	for path, want := range map[string][]int{"x": {0, 1, 4}, "x/y": {0, 4}, "": {0, 1, 2, 3, 4, 5}, ".pad": {2, 3}, "x/": nil, "last": nil, "q": nil} {
		got, e := Folder(l, path)
		if !slices.Equal(got, want) || (e == api.ErrNone) != (want == nil) {
			t.Error("Folder", path, got, e)
		}
	}
	if Path([]string{"a", "b"}) != "a/b" || Path(nil) != "" || Path([]string{"a/b"}) != "" {
		t.Error("Path")
	}
}
