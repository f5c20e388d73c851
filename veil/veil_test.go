package veil

import (
	"strconv"
	"strings"
	"testing"

	"covey/api"
	"covey/hash"
	"covey/sign"
)

func name(s string) string { return hash.Old(s) }

func pad(seed string, n int) string {
	s, _ := hash.Stream(seed, 0, n)
	return s
}

func caller(t *testing.T, offer int, pads [2]string, payload string) *Caller {
	t.Helper()
	c, e := NewCaller(1234567, name("c"), offer, pads, payload)
	if e != api.OK {
		t.Fatal(e)
	}
	return c
}

func answerer(t *testing.T, masked bool, pads [2]string, names ...string) *Answerer {
	t.Helper()
	a, e := NewAnswerer(7654321, names, masked, pads)
	if e != api.OK {
		t.Fatal(e)
	}
	return a
}

func TestP221Errors(t *testing.T) {
	var c *Caller
	var a *Answerer
	long := strings.Repeat("x", api.MaxText+1)
	big := strings.Repeat("x", 65)
	if c.Out() != "" || c.State() != 0 || c.Chosen() != 0 || c.Take() != "" || c.Feed("") != api.ErrInvalid || a.Out() != "" || a.State() != 0 || a.Chosen() != 0 || a.Take() != "" || a.Feed("") != api.ErrInvalid {
		t.Error("nil")
	}
	if _, e := c.Send(""); e != api.ErrInvalid {
		t.Error(e)
	}
	if _, e := a.Name(); e != api.ErrInvalid {
		t.Error(e)
	}
	for k, x := range []struct {
		secret  int
		name    string
		offer   int
		pads    [2]string
		payload string
		e       api.Errno
	}{
		{0, "x", 0, [2]string{}, long, api.ErrInvalid}, {0, name("c"), 1, [2]string{}, long, api.ErrRange}, {1, name("c"), 0, [2]string{}, "", api.ErrRange}, {1, name("c"), 4, [2]string{}, "", api.ErrRange},
		{1, name("c"), 1, [2]string{big, ""}, "", api.ErrRange}, {1, name("c"), 1, [2]string{"", big}, "", api.ErrRange}, {1, name("c"), 1, [2]string{big[1:], big[1:]}, strings.Repeat("x", 1001), api.ErrSize}, {1, name("c"), 3, [2]string{}, strings.Repeat("x", 1000), api.OK},
	} {
		if _, e := NewCaller(x.secret, x.name, x.offer, x.pads, x.payload); e != x.e {
			t.Error(k, e)
		}
	}
	for k, x := range []struct {
		secret int
		names  []string
		pads   [2]string
		e      api.Errno
	}{{0, nil, [2]string{}, api.ErrInvalid}, {0, []string{"x"}, [2]string{}, api.ErrInvalid}, {0, []string{name("c")}, [2]string{}, api.ErrRange}, {1, []string{name("c")}, [2]string{big, ""}, api.ErrRange}, {1, []string{name("c")}, [2]string{}, api.OK}} {
		if _, e := NewAnswerer(x.secret, x.names, true, x.pads); e != x.e {
			t.Error(k, e)
		}
	}
	for k, x := range []struct {
		who          byte
		shared, name string
		from, count  int
		e            api.Errno
	}{{'A', long, "x", 0, 1, api.ErrLong}, {'C', "x", "x", 0, 1, api.ErrInvalid}, {'C', "x", name("c"), 0, 1, api.ErrRange}, {'A', "x", name("c"), -1, 1, api.ErrRange}, {'A', "x", name("c"), 0, 1, api.ErrSize}, {'B', "12345678", name("c"), 5, 10, api.OK}} {
		s, e := Stream(x.who, x.shared, x.name, x.from, x.count)
		if want, _ := hash.Stream(hash.Sum("keyB12345678"+name("c")), 5, 10); e != x.e || e == api.OK && s != want {
			t.Error(k, e)
		}
	}
	x := caller(t, 3, [2]string{}, "")
	if e := x.Feed(long); e != api.ErrLong {
		t.Error(e)
	}
	if _, e := x.Send("x"); e != api.ErrState {
		t.Error(e)
	}
	y := answerer(t, true, [2]string{}, name("c"))
	if _, e := y.Send(long); e != api.ErrLong {
		t.Error(e)
	}
	if _, e := y.Name(); e != api.ErrState {
		t.Error(e)
	}
	// A key that is none is told with its eighth byte.
	for _, f := range []func(string) api.Errno{x.Feed, y.Feed} {
		if f(strings.Repeat("\xff", 7)) != api.OK || f("\xff") != api.ErrData || f("") != api.ErrState {
			t.Error("key")
		}
	}
	if x.State() != 2 || y.State() != 2 || y.Out() != "" || len(x.Out()) != 8 || x.Out() != "" {
		t.Error("wrong")
	}
	for s, want := range map[string]int{"": 0, "\x13cov": 1, "\x13covey peer protocol": 1, "\x13covey peer protocol!!": 1, "\x13cow": 2, "x": 2, "\x13covey peer protocox": 2} {
		if Looks(s) != want {
			t.Error("Looks", s)
		}
	}
}

// talk lets both ends talk by pieces of some sizes, until nothing is on the way.
func talk(c *Caller, a *Answerer, cut int) (ab, ba string) {
	for {
		x, y := c.Out(), a.Out()
		if x == "" && y == "" {
			return ab, ba
		}
		ab, ba = ab+x, ba+y
		for i := 0; i < len(x); i += cut {
			a.Feed(x[i:min(len(x), i+cut)])
		}
		for i := 0; i < len(y); i += cut {
			c.Feed(y[i:min(len(y), i+cut)])
		}
	}
}

func send(t *testing.T, from func(string) (string, api.Errno), to func(string) api.Errno, s string, cut int) string {
	t.Helper()
	x, e := from(s)
	if e != api.OK {
		t.Error(e)
	}
	for i := 0; i < len(x); i += cut {
		if e := to(x[i:min(len(x), i+cut)]); e != api.OK {
			t.Error(e)
		}
	}
	return x
}

func TestP222InStep(t *testing.T) {
	k := 0
	for offer := 1; offer <= 3; offer++ {
		for _, wants := range []bool{true, false} {
			for _, n := range []int{0, 1, 63, 64} {
				for _, cut := range []int{1, 7, 100000} {
					k++
					payload := pad("payload"+strconv.Itoa(k), n*15)
					c := caller(t, offer, [2]string{pad("a"+strconv.Itoa(k), n), pad("b"+strconv.Itoa(k), 64-n)}, payload)
					a := answerer(t, wants, [2]string{pad("c"+strconv.Itoa(k), 64-n), pad("d"+strconv.Itoa(k), n)}, name("x"), name("c"), name("y"))
					talk(c, a, cut)
					want := offer
					if offer == 3 {
						want = 1
						if wants {
							want = 2
						}
					}
					if c.State() != 1 || a.State() != 1 || c.Chosen() != want || a.Chosen() != want {
						t.Fatal(k, c.State(), a.State(), c.Chosen(), a.Chosen())
					}
					if s, e := a.Name(); s != name("c") || e != api.OK {
						t.Error(e)
					}
					if a.Take() != payload || c.Take() != "" || a.Take() != "" {
						t.Error("payload")
					}
					text := pad("text", 5000)
					if x := send(t, c.Send, a.Feed, text, cut); (x == text) != (want == 1) {
						t.Error("masked", want)
					}
					send(t, a.Send, c.Feed, text[1:], cut)
					send(t, a.Send, c.Feed, "more", cut)
					if a.Take() != text || c.Take() != text[1:]+"more" {
						t.Error("taken")
					}
				}
			}
		}
	}
	// A stream goes on beyond what hash.Stream tells.
	c, a := caller(t, 2, [2]string{}, ""), answerer(t, true, [2]string{}, name("c"))
	talk(c, a, 1000)
	text := pad("long", 60000)
	for range 3 {
		send(t, c.Send, a.Feed, text, 9000)
		if a.Take() != text {
			t.Error("long")
		}
	}
}

func TestWireBytes(t *testing.T) {
	pads := [2]string{"pad one", "pad three"}
	c, a := caller(t, 3, pads, "payload"), answerer(t, true, [2]string{"pad two", "pad four"}, name("c"))
	ab, ba := talk(c, a, 1000)
	x, _ := sign.Key(1234567)
	y, _ := sign.Key(7654321)
	shared, _ := sign.Shared(1234567, y)
	sa, _ := Stream('A', shared, name("c"), 0, 100)
	sb, _ := Stream('B', shared, name("c"), 0, 100)
	req, _ := hash.Mask(hash.Old("req2"+name("c")), hash.Old("req3"+shared))
	inner := zeros() + "\x03\x09pad three\x00\x07payload"
	m, _ := hash.Mask(inner, sa[:len(inner)])
	if ab != x+"pad one"+hash.Old("req1"+shared)+req+m {
		t.Errorf("%q", ab)
	}
	inner = zeros() + "\x02\x08pad four"
	m, _ = hash.Mask(inner, sb[:len(inner)])
	if ba != y+"pad two"+m {
		t.Errorf("%q", ba)
	}
	s, _ := c.Send("x")
	if want, _ := hash.Mask("x", sa[len(zeros())+2+9+2+7:][:1]); s != want {
		t.Error("streams go on where the handshake left them")
	}
}

func TestP223Pieces(t *testing.T) {
	c, a := caller(t, 3, [2]string{"abc", "defg"}, "payload"), answerer(t, true, [2]string{"hi", "j"}, name("c"))
	ab, ba := talk(c, a, 1000)
	more, _ := c.Send("behind it")
	other, _ := a.Send("and back")
	for _, damage := range []int{-1, 3, 8, 12, 40, 55, 60, 61, 62, 63, 64, 67, 68, 69, 75} {
		type end struct {
			state, chosen int
			taken, name   string
		}
		var first end
		for _, cut := range []int{1, 2, 5, 1000} {
			b := []byte(ab)
			if damage >= 0 && damage < len(b) {
				b[damage] ^= 0x40
			}
			y := answerer(t, true, [2]string{"hi", "j"}, name("c"))
			s := string(b) + more
			for i := 0; i < len(s); i += cut {
				y.Feed(s[i:min(len(s), i+cut)])
			}
			n, _ := y.Name()
			got := end{y.State(), y.Chosen(), y.Take(), n}
			if cut == 1 {
				first = got
			}
			if got != first || damage < 0 && got != (end{1, 2, "payloadbehind it", name("c")}) {
				t.Error(damage, cut, got, first)
			}
		}
		for _, cut := range []int{1, 2, 5, 1000} {
			b := []byte(ba)
			if damage >= 0 && damage < len(b) {
				b[damage] ^= 0x40
			}
			x := caller(t, 3, [2]string{"abc", "defg"}, "payload")
			s := string(b) + other
			for i := 0; i < len(s); i += cut {
				x.Feed(s[i:min(len(s), i+cut)])
			}
			got := end{x.State(), x.Chosen(), x.Take(), ""}
			if cut == 1 {
				first = got
			}
			if got != first || damage < 0 && got != (end{1, 2, "and back", ""}) {
				t.Error(damage, cut, got, first)
			}
		}
	}
}

func TestP224Names(t *testing.T) {
	c := caller(t, 3, [2]string{"abc", "defg"}, "payload")
	a := answerer(t, true, [2]string{"hi", "j"}, name("x"), name("y"))
	talk(c, a, 1)
	if _, e := a.Name(); a.State() != 2 || e != api.ErrState || a.Chosen() != 0 || a.Take() != "" || c.State() != 0 {
		t.Error(a.State(), e)
	}
	// The place is not found: when 84 bytes are there, or 72.
	a = answerer(t, true, [2]string{}, name("x"))
	key, _ := sign.Key(5)
	if a.Feed(key+pad("p", 83)) != api.OK || a.Feed("x") != api.ErrData || a.State() != 2 {
		t.Error("place", a.State())
	}
	c = caller(t, 1, [2]string{}, "")
	if c.Feed(key+pad("p", 71)) != api.OK || c.Feed("x") != api.ErrData || len(c.Out()) != 8+40+12 || c.Out() != "" {
		t.Error("place")
	}
	// What can't be in the steps.
	shared, _ := sign.Shared(7654321, must(sign.Key(1)))
	sa, _ := Stream('A', shared, name("c"), 0, 100)
	front := must(sign.Key(1)) + mark(shared) + meant(shared, name("c"))
	for k, x := range []struct {
		inner string
		at    int
	}{{"\x00\x01", 1}, {zeros() + "\x00", 8}, {zeros() + "\x04", 8}, {zeros() + "\x01\x41", 9}, {zeros() + "\x01\x00\x03\xe9", 11}, {zeros() + "\x01\x00\xff\xff", 11}} {
		a := answerer(t, true, [2]string{}, name("c"))
		m, _ := hash.Mask(x.inner, sa[:len(x.inner)])
		if a.Feed(front+m[:x.at]) != api.OK || a.Feed(m[x.at:x.at+1]) != api.ErrData {
			t.Error(k)
		}
		if n, e := a.Name(); n != name("c") || e != api.OK {
			t.Error("Name stays told", k, e)
		}
	}
	for k, x := range []struct {
		offer int
		inner string
		at    int
	}{{1, zeros() + "\x02", 8}, {2, zeros() + "\x01", 8}, {3, zeros() + "\x03", 8}, {3, zeros() + "\x00", 8}, {3, zeros() + "\x02\x41", 9}} {
		c := caller(t, x.offer, [2]string{}, "")
		shared, _ := sign.Shared(1234567, must(sign.Key(1)))
		sb, _ := Stream('B', shared, name("c"), 0, 100)
		m, _ := hash.Mask(x.inner, sb[:len(x.inner)])
		if c.Feed(must(sign.Key(1))+m[:x.at]) != api.OK || c.Feed(m[x.at:x.at+1]) != api.ErrData || c.Chosen() != 0 {
			t.Error(k)
		}
	}
}

func TestP225Hidden(t *testing.T) {
	var ab, ba []string
	for k := range 2 {
		c := caller(t, 3, [2]string{pad("k"+strconv.Itoa(k), 10+k), "three"}, "payload")
		a := answerer(t, true, [2]string{pad("m"+strconv.Itoa(k), 20+k), "four"}, name("c"))
		x, y := talk(c, a, 1000)
		ab, ba = append(ab, x[8+10+k:]), append(ba, y[8+20+k:])
	}
	if ab[0] != ab[1] || ba[0] != ba[1] {
		t.Error("hidden")
	}
}
