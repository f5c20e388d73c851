package local

import (
	"reflect"
	"slices"
	"strconv"
	"strings"
	"testing"

	"covey/addr"
	"covey/api"
	"covey/hash"
)

func name(k int) string { return hash.Old(strconv.Itoa(k)) }

func names(n int) []string {
	var l []string
	for k := range n {
		l = append(l, name(k))
	}
	slices.Sort(l)
	return l
}

func at(n int) api.Addr {
	a, _ := addr.V4(10, 0, 0, n, 1)
	return a
}

func made(t *testing.T, seed string, every, n int) *Crier {
	t.Helper()
	c, e := New(seed, 6881, every)
	if e != api.OK {
		t.Fatal(e)
	}
	for k := range n {
		c.Add(name(k), false)
	}
	return c
}

func TestP231Errors(t *testing.T) {
	var none *Crier
	if _, e := none.Tell(0); e != api.ErrInvalid || none.Add(name(1), false) != api.ErrInvalid || none.Drop(name(1)) != api.ErrInvalid || none.Names() != nil || none.Cookie() != "" {
		t.Error(e)
	}
	if _, _, e := none.Hear(0, at(1), ""); e != api.ErrInvalid {
		t.Error(e)
	}
	for k, c := range []struct {
		seed        string
		port, every int
		e           api.Errno
	}{{strings.Repeat("x", 101), 0, 0, api.ErrInvalid}, {"", 0, 1000, api.ErrRange}, {"", 65536, 1000, api.ErrRange}, {"", 1, 999, api.ErrRange}, {"", 1, 1000001, api.ErrRange}, {"", 1, 1000, api.OK}} {
		if _, e := New(c.seed, c.port, c.every); e != c.e {
			t.Error(k, e)
		}
	}
	c := made(t, "s", 1000, 1)
	c.When(10)
	long := strings.Repeat("x", 1401)
	for _, now := range []int{-1, 9, api.MaxTime + 1} {
		_, e1 := c.Tell(now)
		_, e2 := c.When(now)
		_, _, e3 := c.Hear(now, at(1), "")
		_, e4 := c.Heard(now, at(1))
		if e1 != api.ErrRange || e2 != api.ErrRange || e3 != api.ErrRange || e4 != api.ErrRange {
			t.Error(now, e1, e2, e3, e4)
		}
	}
	if _, _, e := c.Hear(-1, api.Addr{}, long); e != api.ErrInvalid {
		t.Error(e)
	}
	if _, _, e := c.Hear(-1, at(1), long); e != api.ErrLong {
		t.Error(e)
	}
	if _, _, e := Parse(long); e != api.ErrLong {
		t.Error(e)
	}
	if c.Add("x", true) != api.ErrInvalid || c.Add(name(0), true) != api.ErrRefused || c.Add(name(0), false) != api.ErrDuplicate || c.Drop(name(9)) != api.ErrNone || c.Drop("x") != api.ErrInvalid {
		t.Error("Add, Drop")
	}
	if _, e := c.Last(name(0)); e != api.ErrNone {
		t.Error(e)
	}
	if _, e := c.Last(name(9)); e != api.ErrNone {
		t.Error(e)
	}
	c = made(t, "s", 1000, 200)
	if e := c.Add(name(200), false); e != api.ErrLimit || len(c.Names()) != 200 {
		t.Error(e)
	}
	if _, e := made(t, "s", 1000, 0).When(0); e != api.ErrNone {
		t.Error(e)
	}
	for k, m := range []api.Called{
		{}, {Port: 1, Names: names(1)}, {Port: 0, Names: names(1), Cookie: "c"}, {Port: 65536, Names: names(1), Cookie: "c"}, {Port: 1, Cookie: "c"}, {Port: 1, Names: names(21), Cookie: "c"}, {Port: 1, Names: []string{"x"}, Cookie: "c"},
		{Port: 1, Names: []string{name(1), name(1)}, Cookie: "c"}, {Port: 1, Names: names(1), Cookie: " "}, {Port: 1, Names: names(1), Cookie: "\x7f"}, {Port: 1, Names: names(1), Cookie: strings.Repeat("c", 31)},
	} {
		if _, e := Format(m); e != api.ErrInvalid || Valid(m) {
			t.Error(k, e)
		}
	}
}

func TestP232Back(t *testing.T) {
	for k, m := range []api.Called{{Port: 1, Names: names(1), Cookie: "!"}, {Port: 65535, Names: names(20), Cookie: strings.Repeat("~", 30)}, {Port: 6881, Names: names(3), Cookie: "CALL:Name:"}} {
		s, e := Format(m)
		x, line, f := Parse(s)
		if !reflect.DeepEqual(x, m) || line != 0 || e != api.OK || f != api.OK || !Valid(m) {
			t.Error(k, e, f)
		}
		lines := strings.Count(s, "\r\n")
		for n := range len(s) {
			if x, line, e := Parse(s[:n]); e != api.ErrSyntax || line != strings.Count(s[:n], "\r\n") || x.Port != 0 || len(x.Names) > 0 {
				t.Error(k, n, line, e)
			}
		}
		if _, line, e := Parse(s + "x"); line != lines || e != api.ErrSyntax {
			t.Error(line, e)
		}
	}
	good, _ := Format(api.Called{Port: 6881, Names: names(2), Cookie: "cookie"})
	if !strings.HasPrefix(good, "CALL * COVEY/1\r\nPort: 6881\r\nName: ") || !strings.HasSuffix(good, "\r\nCookie: cookie\r\n\r\n") {
		t.Errorf("%q", good)
	}
	n := names(2)
	for k, c := range []struct {
		from, to string
		line     int
	}{
		{"COVEY/1", "COVEY/2", 0}, {"CALL", "call", 0}, {"6881", "06881", 1}, {"6881", "0", 1}, {"6881", "65536", 1}, {"6881", "+1", 1}, {"Port: ", "Port:", 1}, {"Name: ", "Nome: ", 2}, {hash.Hex(n[0]), strings.ToUpper(hash.Hex(n[0])), 2},
		{hash.Hex(n[0]), hash.Hex(n[0])[1:], 2}, {hash.Hex(n[1]), hash.Hex(n[0]), 3}, {"Cookie: cookie", "Cookie: a b", 4}, {"Cookie: cookie", "Cookie: ", 4}, {"Cookie: cookie", "Cookie", 4}, {"cookie\r\n", "cookie\n", 4}, {"cookie\r\n\r\n", "cookie\r\nx\r\n", 5},
		{"Port: 6881\r\n", "", 1}, {"Name: " + hash.Hex(n[0]) + "\r\nName: " + hash.Hex(n[1]) + "\r\n", "", 2}, {"\r\nCookie: cookie", "", 4}, {"CALL", " CALL", 0}, {"CALL * COVEY/1\r\n", "CALL * COVEY/1\r\nCALL * COVEY/1\r\n", 1},
	} {
		s := strings.Replace(good, c.from, c.to, 1)
		if x, line, e := Parse(s); e != api.ErrSyntax || line != c.line || x.Cookie != "" {
			t.Errorf("%d %q %d %d", k, s, line, e)
		}
	}
	many := "CALL * COVEY/1\r\nPort: 1\r\n"
	for _, x := range names(21) {
		many += "Name: " + hash.Hex(x) + "\r\n"
	}
	if _, line, e := Parse(many + "Cookie: c\r\n\r\n"); line != 22 || e != api.ErrSyntax {
		t.Error(line, e)
	}
}

func TestP233When(t *testing.T) {
	for s := range 10 {
		seed := "when" + strconv.Itoa(s)
		draw := func(k, n int) int {
			v, _ := hash.Draw(seed, k, n)
			return v
		}
		c := made(t, seed, 1000+draw(0, 5000), 1+draw(1, 60))
		now, last := 0, -1000
		for k := range 60 {
			switch draw(10+2*k, 8) {
			case 0:
				c.Add(name(draw(11+2*k, 100)), false)
			case 1:
				c.Drop(name(draw(11+2*k, 100)))
			}
			w, e := c.When(now)
			if e == api.ErrNone {
				if len(c.Names()) != 0 {
					t.Error("never")
				}
				continue
			}
			if w > now {
				for _, early := range []int{now, w - 1} {
					if s, e := c.Tell(early); s != "" || e != api.ErrNone {
						t.Error("before When", e)
					}
				}
			}
			before := map[string]int{}
			for _, n := range c.Names() {
				before[n] = -1
				if x, e := c.Last(n); e == api.OK {
					before[n] = x
				}
			}
			text, e := c.Tell(w)
			m, _, f := Parse(text)
			if e != api.OK || f != api.OK || w < last+1000 || m.Port != 6881 || m.Cookie != c.Cookie() {
				t.Fatal("at When", e, f)
			}
			// Those that wait longest come first.
			for _, n := range m.Names {
				if x, _ := c.Last(n); x != w || before[n] >= 0 && w-before[n] < c.every {
					t.Error("Last", x)
				}
				for o, last := range before {
					if !slices.Contains(m.Names, o) && (last < before[n] || last == before[n] && o < n) {
						t.Error("one waits longer")
					}
				}
			}
			last = w
			now = w + draw(1000+k, 1500)
		}
	}
}

// At the end of time: what may be told only behind it is never told, and a When that finds nothing changes nothing.
func TestP233EndOfTime(t *testing.T) {
	for k, c := range []struct {
		every, now, more int // more names are put in behind the first message
		at               int
		e                api.Errno
	}{
		{1000, api.MaxTime, 0, 0, api.ErrNone}, {1000, api.MaxTime - 1000, 0, api.MaxTime, api.OK}, {1000, api.MaxTime - 999, 0, 0, api.ErrNone}, {5000, api.MaxTime - 1000, 0, 0, api.ErrNone},
		{5000, api.MaxTime - 1000, 1, api.MaxTime, api.OK}, {5000, api.MaxTime - 999, 1, 0, api.ErrNone},
	} {
		x := made(t, "end", c.every, 1)
		if _, e := x.Tell(c.now); e != api.OK {
			t.Error(k, e)
		}
		for i := range c.more {
			x.Add(name(100+i), false)
		}
		if at, e := x.When(c.now); at != c.at || e != c.e {
			t.Error(k, at, e)
		}
		if _, e := x.Tell(api.MaxTime); e != c.e {
			t.Error(k, "Tell at the last time", e)
		}
	}
	x := made(t, "end", 1000000, 1)
	now := api.MaxTime - 100000
	x.Tell(now)
	if _, e := x.When(api.MaxTime); e != api.ErrNone {
		t.Error(e)
	}
	if n, e := x.Heard(now, at(1)); n != 0 || e != api.OK {
		t.Error("the time is as it was", n, e)
	}
}

func TestP234Turns(t *testing.T) {
	for _, n := range []int{1, 19, 20, 21, 75, 200} {
		c := made(t, "turns", 3000, n)
		now := 0
		told := map[string]int{}
		for now < 40000 {
			w, _ := c.When(now)
			text, _ := c.Tell(w)
			m, _, _ := Parse(text)
			for _, x := range m.Names {
				if w-told[x] > 3000+1000*n {
					t.Error("too late", n, w-told[x])
				}
				told[x] = w
			}
			now = w
		}
		if len(told) != n {
			t.Error(n, len(told))
		}
	}
}

func TestP235Own(t *testing.T) {
	a, b := made(t, "a", 1000, 5), made(t, "b", 1000, 9)
	if a.Cookie() != hash.Hex(hash.Sum("a")[:8]) {
		t.Error(a.Cookie())
	}
	text, _ := a.Tell(0)
	if l, _, e := a.Hear(0, at(1), text); e != api.ErrState || len(l) != 0 {
		t.Error(e)
	}
	if n, _ := a.Heard(0, at(1)); n != 0 {
		t.Error("an own message is not counted")
	}
	from := at(9)
	l, p, e := b.Hear(0, from, text)
	from.Port = 6881
	if !slices.Equal(l, names(5)) || p != from || e != api.OK {
		t.Error(l, p, e)
	}
	b.Drop(name(3))
	if l, _, _ := b.Hear(0, from, text); len(l) != 4 {
		t.Error(l)
	}
	if l, p, e := made(t, "c", 1000, 0).Hear(0, at(1), text); len(l) != 0 || p.Port != 6881 || e != api.OK {
		t.Error("nothing in common", e)
	}
	if _, _, e := b.Hear(0, from, "x"); e != api.ErrSyntax {
		t.Error(e)
	}
	for k := range 25 {
		p := at(9)
		p.Port = 100 + k
		want := api.OK
		if k >= 18 {
			want = api.ErrFull
		}
		if _, _, e := b.Hear(59999, p, text); e != want {
			t.Error(k, e)
		}
	}
	if n, e := b.Heard(59999, at(9)); n != 20 || e != api.OK {
		t.Error(n, e)
	}
	if _, _, e := b.Hear(59999, at(8), text); e != api.OK {
		t.Error("another IP", e)
	}
	if _, _, e := b.Hear(60000, at(9), text); e != api.OK {
		t.Error("the next minute", e)
	}
	if n, _ := b.Heard(60000, at(8)); n != 0 {
		t.Error(n)
	}
}

func TestP236Private(t *testing.T) {
	c := made(t, "a", 1000, 3)
	if c.Add(name(7), true) != api.ErrRefused {
		t.Error("private")
	}
	text, _ := c.Tell(0)
	m, _, _ := Parse(text)
	if !slices.Equal(m.Names, names(3)) || !slices.Equal(c.Names(), names(3)) {
		t.Error(m.Names)
	}
	c.Drop(name(1))
	c.Add(name(1), false)
	if _, e := c.Last(name(1)); e != api.ErrNone {
		t.Error("never told", e)
	}
	text, _ = c.Tell(1000)
	if m, _, _ = Parse(text); len(m.Names) != 3 {
		t.Error(m.Names)
	}
}
