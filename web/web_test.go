package web

import (
	"math"
	"slices"
	"strconv"
	"strings"
	"testing"

	"covey/api"
	"covey/bits"
	"covey/files"
	"covey/hash"
)

func file(n int, path ...string) api.File { return api.File{Path: path, Length: n} }

func lists() [][]api.File {
	return [][]api.File{
		{file(100, "a b")}, {file(20, "a"), {Path: []string{".pad", "12"}, Length: 12, Pad: true}, file(5, "b", "c%")}, {file(0, "e"), file(7, "a"), file(50, "b"), file(0, "f"), file(33, "c")},
	}
}

func data(l []api.File) []string {
	var out []string
	for _, f := range l {
		s, _ := hash.Stream(strings.Join(f.Path, "/"), 0, f.Length)
		if f.Pad {
			s = ""
		}
		out = append(out, s)
	}
	return out
}

func urls(n int) []string {
	var l []string
	for k := range n {
		l = append(l, "http://"+strconv.Itoa(k))
	}
	return l
}

func full(n int) string {
	s, _ := bits.Full(n)
	return s
}

func made(t *testing.T, seeds, pieces int, wanted string, run int) *Client {
	t.Helper()
	c, e := New(urls(seeds), pieces, wanted, run)
	if e != api.OK {
		t.Fatal(e)
	}
	return c
}

func TestP301Errors(t *testing.T) {
	var none *Client
	if _, _, e := none.Next(0); e != api.ErrInvalid || none.Failed(0, 0, true) != api.ErrInvalid || none.Bad(0, 0, 0) != api.ErrInvalid || none.Want(0, true) != api.ErrInvalid || none.Wanted() != "" || none.Under() != nil {
		t.Error(e)
	}
	if _, e := none.Took(0, 0); e != api.ErrInvalid {
		t.Error(e)
	}
	for url, want := range map[string]bool{"": false, "http://": true, "https://x": true, "ftp://x": false, "http:/x": false, "http://" + strings.Repeat("x", 193): true, "http://" + strings.Repeat("x", 194): false, "HTTP://x": false} {
		if Valid(url) != want {
			t.Error(url)
		}
	}
	l := lists()[1]
	run := api.Run{From: 0, Count: 1}
	for k, c := range []struct {
		web       int
		url, name string
		l         []api.File
		piece     int
		r         api.Run
		e         api.Errno
	}{
		{99, "x", "n", l, 17, run, api.ErrInvalid}, {99, "http://x", "", l, 17, run, api.ErrInvalid}, {99, "http://x", strings.Repeat("x", 101), l, 17, run, api.ErrInvalid}, {99, "http://x", "n", nil, 17, run, api.ErrInvalid},
		{0, "http://x", "n", l, 17, run, api.ErrRange}, {0, "http://x", "n", l, 16, api.Run{}, api.ErrRange}, {0, "http://x", "n", l, 16, api.Run{From: 2, Count: 2}, api.ErrRange}, {0, "http://x", "n", l, 16, api.Run{From: -1, Count: 1}, api.ErrRange},
		{0, "http://x", "n", l, 16, api.Run{From: math.MaxInt, Count: math.MaxInt}, api.ErrRange}, {20, "http://x", "n", l, 16, run, api.ErrRange}, {-1, "http://x", "n", l, 16, run, api.ErrRange}, {19, "http://x", "n", l, 16, run, api.OK},
	} {
		if _, e := Fetches(c.web, c.url, c.name, c.l, c.piece, false, c.r); e != c.e {
			t.Error(k, e)
		}
	}
	if _, e := Path("http://x", "n", l, 3); e != api.ErrRange {
		t.Error(e)
	}
	if _, e := Path("http://x", "n", l, 1); e != api.ErrKind {
		t.Error(e)
	}
	for k, c := range []struct {
		texts []string
		e     api.Errno
	}{{nil, api.ErrSize}, {[]string{strings.Repeat("x", 15)}, api.ErrSize}, {[]string{strings.Repeat("x", 16), ""}, api.ErrSize}, {[]string{strings.Repeat("x", 16)}, api.OK}} {
		if _, e := Pieces(l, 16, false, run, c.texts); e != c.e {
			t.Error(k, e)
		}
	}
	for k, c := range []struct {
		urls   []string
		pieces int
		wanted string
		run    int
		e      api.Errno
	}{
		{[]string{"x"}, 8, "\xff", 0, api.ErrInvalid}, {nil, 8, "\xff\xff", 0, api.ErrInvalid}, {nil, 7, "\xff", 0, api.ErrInvalid}, {nil, -1, "", 0, api.ErrInvalid}, {nil, 8, "\xff", 0, api.ErrRange}, {nil, 8, "\xff", 17, api.ErrRange}, {nil, 8, "\xff", 1, api.ErrSize},
		{urls(21), 8, "\xff", 1, api.ErrSize}, {append(urls(3), urls(1)...), 8, "\xff", 1, api.ErrDuplicate}, {urls(20), 0, "", 16, api.OK},
	} {
		if _, e := New(c.urls, c.pieces, c.wanted, c.run); e != c.e {
			t.Error(k, e)
		}
	}
	c := made(t, 2, 8, "\xf0", 2)
	c.When(10)
	for _, now := range []int{-1, 9, api.MaxTime + 1} {
		_, _, e1 := c.Next(now)
		_, e2 := c.Took(now, 0)
		_, e3 := c.When(now)
		if e1 != api.ErrRange || e2 != e1 || e3 != e1 || c.Failed(now, 0, false) != e1 || c.Bad(now, 0, 0) != e1 {
			t.Error(now, e1, e2, e3)
		}
	}
	if c.Failed(10, 2, false) != api.ErrRange || c.Failed(10, 0, false) != api.ErrNone || c.Bad(10, 0, 8) != api.ErrRange || c.Bad(10, 0, 0) != api.ErrState || c.Want(8, true) != api.ErrRange {
		t.Error("numbers")
	}
	if _, e := c.Out(2); e != api.ErrRange {
		t.Error(e)
	}
	if _, e := c.Wait(-1); e != api.ErrRange {
		t.Error(e)
	}
}

func TestP302Ranges(t *testing.T) {
	for k, l := range lists() {
		d := data(l)
		for _, new := range []bool{false, true} {
			for _, piece := range []int{16, 32} {
				n, _ := files.Pieces(l, piece, new)
				for from := range n {
					for count := 1; from+count <= n; count++ {
						r := api.Run{From: from, Count: count}
						f, e := Fetches(3, "http://x", "name", l, piece, new, r)
						var texts []string
						for i, x := range f {
							texts = append(texts, d[x.File][x.From:x.From+x.Count])
							if x.Web != 3 || l[x.File].Pad || i > 0 && f[i-1].File == x.File && f[i-1].From+f[i-1].Count == x.From {
								t.Error(k, x)
							}
						}
						got, g := Pieces(l, piece, new, r, texts)
						if e != api.OK || g != api.OK || len(got) != count {
							t.Fatal(k, e, g)
						}
						for i, s := range got {
							spans, _ := files.Spans(l, piece, new, from+i)
							if want, _ := files.Read(l, d, spans); s != want {
								t.Error(k, new, from, i)
							}
						}
					}
				}
			}
		}
	}
	for k, c := range []struct {
		url, name string
		list      int
		file      int
		want      string
	}{
		{"http://x/", "a b", 0, 0, "http://x/a%20b"}, {"http://x/f", "a b", 0, 0, "http://x/f"}, {"http://x/f ?", "n/m~", 1, 2, "http://x/f ?/n/m~/b/c%25"}, {"https://x/", "\xff", 1, 0, "https://x/%FF/a"}, {"http://x", "n", 2, 4, "http://x/n/c"},
	} {
		if s, e := Path(c.url, c.name, lists()[c.list], c.file); s != c.want || e != api.OK {
			t.Error(k, s, e)
		}
	}
}

func TestP303Once(t *testing.T) {
	c := made(t, 3, 20, "\xef\xff\xf0", 4) // 0-2, 4-19
	next := func(now, web, from, count int) {
		t.Helper()
		if w, r, e := c.Next(now); w != web || r != (api.Run{From: from, Count: count}) || e != api.OK {
			t.Error(w, r, e)
		}
	}
	next(0, 0, 4, 4) // counted as at most Run pieces; of equal ones the first
	next(0, 1, 8, 4)
	next(0, 2, 12, 4)
	if _, _, e := c.Next(0); e != api.ErrNone {
		t.Error("all have something under way", e)
	}
	if _, e := c.When(0); e != api.ErrNone {
		t.Error(e)
	}
	if l := c.Under(); !slices.Equal(l, []api.Run{{From: 4, Count: 4}, {From: 8, Count: 4}, {From: 12, Count: 4}}) {
		t.Error(l)
	}
	c.Want(5, false)
	if r, e := c.Took(0, 0); r != (api.Run{From: 4, Count: 4}) || e != api.OK || c.Wanted() != "\xe0\xff\xf0" {
		t.Errorf("%v %d %x", r, e, c.Wanted())
	}
	next(0, 0, 16, 4)
	c.Failed(5, 0, false)
	if w, e := c.Wait(0); w != 2005 || e != api.OK {
		t.Error(w)
	}
	c.Want(17, false)
	c.Took(5, 1)
	next(5, 1, 0, 3)
	c.Failed(6, 2, false)
	if w, e := c.When(6); w != 2005 || e != api.OK {
		t.Error(w, e)
	}
	next(2005, 0, 12, 4)
}

// Wanted tells what is under way, too, until it ends; Want back in keeps it behind a failure.
func TestP303WantedUnderWay(t *testing.T) {
	c := made(t, 2, 4, "\xe0", 2)
	wanted := func(want string) {
		t.Helper()
		if s := c.Wanted(); s != want {
			t.Errorf("%x, not %x", s, want)
		}
	}
	c.Next(0)
	wanted("\xe0")
	c.Want(0, false)
	c.Want(1, false)
	c.Want(2, false)
	wanted("\xc0")
	if _, _, e := c.Next(0); e != api.ErrNone {
		t.Error("what is under way stays so, and is asked of nobody else", e)
	}
	c.Want(1, true)
	c.Failed(0, 0, false)
	wanted("\x40")
	if _, r, e := c.Next(0); r != (api.Run{From: 1, Count: 1}) || e != api.OK {
		t.Error(r, e)
	}
	c.Want(1, false)
	wanted("\x40")
	if r, e := c.Took(0, 1); r != (api.Run{From: 1, Count: 1}) || e != api.OK {
		t.Error("taken out while under way, told by Took all the same", r, e)
	}
	wanted("\x00")
}

func TestP304All(t *testing.T) {
	for seed := range 8 {
		c := made(t, 4, 50, full(50), 1+seed*2)
		now, k := 0, 0
		draw := func(n int) int {
			k++
			v, _ := hash.Draw("all"+strconv.Itoa(seed), k, n)
			return v
		}
		got := map[int]bool{}
		for range 2000 {
			w, e := c.When(now)
			if e == api.OK {
				if w > now {
					if _, _, e := c.Next(w - 1); e != api.ErrNone {
						t.Error("before When", e)
					}
				}
				now = w
				web, r, e := c.Next(now)
				if e != api.OK || r.Count < 1 || r.Count > 1+seed*2 {
					t.Error("at When", e)
				}
				for i := range r.Count {
					if c.Wanted()[(r.From+i)/8]&(128>>((r.From+i)%8)) == 0 {
						t.Error("wanted pieces alone")
					}
				}
				if wait, _ := c.Wait(web); wait > now {
					t.Error("before Wait")
				}
			}
			busy := map[int]bool{}
			for _, r := range c.Under() {
				for i := range r.Count {
					if busy[r.From+i] {
						t.Error("under way twice")
					}
					busy[r.From+i] = true
				}
			}
			web := draw(4)
			if draw(12) == 0 {
				c.Failed(now, web, false)
			} else if r, e := c.Took(now, web); e == api.OK {
				for i := range r.Count {
					got[r.From+i] = true
				}
			}
		}
		if len(got) != 50 || strings.Trim(c.Wanted(), "\x00") != "" {
			t.Error(len(got))
		}
		if _, e := c.When(now); e != api.ErrNone {
			t.Error(e)
		}
	}
}

func TestP305Back(t *testing.T) {
	c := made(t, 1, 3, "\xe0", 1)
	now := 0
	for n := 1; n <= 8; n++ {
		if _, _, e := c.Next(now); e != api.OK {
			t.Error(n, e)
		}
		c.Failed(now, 0, false)
		w, _ := c.Wait(0)
		if want := now + 1000<<n; w != want {
			t.Error(n, w, want)
		}
		out, e := c.Out(0)
		if out != (n == 8) || e != api.OK {
			t.Error(n, out)
		}
		now = w
	}
	if _, _, e := c.Next(now); e != api.ErrNone {
		t.Error("out", e)
	}
	if _, e := c.When(now); e != api.ErrNone {
		t.Error(e)
	}
	c = made(t, 2, 3, "\xe0", 3)
	c.Next(0)
	c.Failed(0, 0, true)
	if out, _ := c.Out(0); !out {
		t.Error("gone")
	}
	if w, _, _ := c.Next(0); w != 1 {
		t.Error(w)
	}
	c.Took(0, 1)
	if c.Bad(0, 0, 0) != api.ErrState || c.Bad(0, 1, 0) != api.OK || c.Bad(0, 1, 0) != api.ErrState || c.Wanted() != "\x80" {
		t.Error("Bad")
	}
	c.Want(1, true)
	if c.Bad(0, 1, 1) != api.OK {
		t.Error("wanted again without Bad keeps the seed")
	}
	if out, _ := c.Out(1); out {
		t.Error("two")
	}
	c.Bad(0, 1, 2)
	if out, _ := c.Out(1); !out {
		t.Error("behind the third one")
	}
	c = made(t, 1, 1, "\x80", 1)
	c.Next(0)
	c.Failed(0, 0, false)
	c.Next(2000)
	c.Took(2000, 0)
	if w, _ := c.Wait(0); w != 0 {
		t.Error("behind Took Wait is 0", w)
	}
}

// At the end of time a seed that waits beyond it is asked by nobody any more.
func TestP305EndOfTime(t *testing.T) {
	for _, late := range []int{0, 1} {
		now := api.MaxTime - 2000 + late
		c := made(t, 2, 3, "\xe0", 1)
		c.Next(0)
		c.Next(0)
		if c.Failed(now, 0, false) != api.OK {
			t.Error("Failed")
		}
		if w, _ := c.Wait(0); w != now+2000 {
			t.Error(w)
		}
		at, e := c.When(now)
		if late == 0 && (at != api.MaxTime || e != api.OK) || late == 1 && (at != 0 || e != api.ErrNone) {
			t.Error(late, at, e)
		}
		if r, e := c.Took(now, 1); r != (api.Run{From: 1, Count: 1}) || e != api.OK {
			t.Error(r, e)
		}
		if at, e := c.When(now); at != now || e != api.OK {
			t.Error("the other one may be asked at once", at, e)
		}
		c.Next(now)
		if _, _, e := c.Next(api.MaxTime); (e == api.OK) != (late == 0) {
			t.Error(late, e)
		}
	}
}

func TestP306Header(t *testing.T) {
	for _, c := range [][2]int{{5, 3}, {0, 1}, {65536, 65536}, {0, 65536}} {
		s, e := Header(api.Fetch{From: c[0], Count: c[1]})
		from, count, f := ParseHeader(s)
		if from != c[0] || count != c[1] || e != api.OK || f != api.OK {
			t.Error(c, s, e, f)
		}
	}
	if s, _ := Header(api.Fetch{From: 5, Count: 3}); s != "bytes=5-7" {
		t.Error(s)
	}
	for _, c := range [][2]int{{-1, 1}, {0, 0}, {65537, 1}, {0, 65537}} {
		if _, e := Header(api.Fetch{From: c[0], Count: c[1]}); e != api.ErrRange {
			t.Error(c, e)
		}
	}
	for _, s := range []string{"", "bytes=", "bytes=5", "bytes=5-", "bytes=5-4", "bytes=05-7", "bytes=5-07", "bytes=-5-7", "5-7", "bytes=5-7 ", "Bytes=5-7", "bytes=+5-7", "bytes=0-65536", "bytes=65537-65537", "bytes=bytes=5-7", "bytes=5-7-8", "bytes=99999999999999999999-1"} {
		if from, count, e := ParseHeader(s); e != api.ErrSyntax || from != 0 || count != 0 {
			t.Error(s, e)
		}
	}
}
