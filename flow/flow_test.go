package flow

import (
	"reflect"
	"slices"
	"strconv"
	"strings"
	"testing"

	"covey/api"
	"covey/hash"
)

func made(t *testing.T, opener bool, first, room int) *End {
	t.Helper()
	x, e := New(opener, 77, first, room)
	if e != api.OK {
		t.Fatal(e)
	}
	return x
}

func text(seed string, n int) string {
	s, _ := hash.Stream(seed, 0, n)
	return s
}

func segments() []api.Segment {
	return []api.Segment{
		{Kind: api.FOpen, Conn: 1, Seq: 65535, Window: 1000000}, {Kind: api.FData, Body: "x", Marks: "\x01\x02\x03\x04", Time: most32, Late: most32}, {Kind: api.FData, Body: text("b", api.MaxBody), Seq: 3, Ack: 65535},
		{Kind: api.FState, Marks: "\x80", Ack: 7}, {Kind: api.FEnd, Conn: 65535}, {Kind: api.FReset},
	}
}

func send(t *testing.T, x *End, now int) []api.Segment {
	t.Helper()
	l, e := x.Send(now)
	if e != api.OK {
		t.Fatal("Send", e)
	}
	for _, p := range l {
		if !Valid(p) || p.Conn != 77 {
			t.Fatal("what is sent is valid", p)
		}
	}
	return l
}

func take(t *testing.T, x *End, now int, l ...api.Segment) {
	t.Helper()
	if e := x.Take(now, l); e != api.OK {
		t.Fatal("Take", e)
	}
}

// opened are two ends that are open, at the time 0.
func opened(t *testing.T, room int) (a, b *End) {
	t.Helper()
	a, b = made(t, true, 10, room), made(t, false, 500, room)
	a.Open(0)
	take(t, b, 0, send(t, a, 0)...)
	take(t, a, 0, send(t, b, 0)...)
	take(t, b, 0, send(t, a, 0)...)
	if a.State() != 2 || b.State() != 2 || len(send(t, a, 0))+len(send(t, b, 0)) != 0 {
		t.Fatal("open", a.State(), b.State())
	}
	a.Told()
	return a, b
}

func TestP251Errors(t *testing.T) {
	var none *End
	if none.Open(0) != api.ErrInvalid || none.Write(0, "") != api.ErrInvalid || none.Close(0) != api.ErrInvalid || none.Take(0, nil) != api.ErrInvalid || none.Limit(1) != api.ErrInvalid || none.Reset() != api.ErrInvalid || none.State() != 0 || none.Ready() != 0 || none.Waiting() != 0 || none.Ended() {
		t.Error("nil")
	}
	if _, e := none.Send(0); e != api.ErrInvalid {
		t.Error(e)
	}
	if _, e := none.When(); e != api.ErrInvalid {
		t.Error(e)
	}
	for _, c := range [][3]int{{-1, 0, 1400}, {65536, 0, 1400}, {0, -1, 1400}, {0, 65536, 1400}, {0, 0, 1399}, {0, 0, 1000001}} {
		if _, e := New(true, c[0], c[1], c[2]); e != api.ErrRange {
			t.Error(c, e)
		}
	}
	for k, f := range []func(p *api.Segment){
		func(p *api.Segment) { p.Kind = 0 }, func(p *api.Segment) { p.Kind = 6 }, func(p *api.Segment) { p.Conn = -1 }, func(p *api.Segment) { p.Seq = 65536 }, func(p *api.Segment) { p.Ack = 65536 }, func(p *api.Segment) { p.Window = 1000001 },
		func(p *api.Segment) { p.Time = most32 + 1 }, func(p *api.Segment) { p.Late = -1 }, func(p *api.Segment) { p.Marks = "12345" }, func(p *api.Segment) { p.Body = strings.Repeat("x", 1401) },
	} {
		for _, p := range segments() {
			f(&p)
			_, e := Encode(p)
			x := made(t, true, 0, 2000)
			if Valid(p) || e != api.ErrInvalid || x.Take(-1, []api.Segment{p}) != api.ErrInvalid {
				t.Error(k, p.Kind, e)
			}
		}
	}
	if Valid(api.Segment{Kind: api.FData}) || Valid(api.Segment{Kind: api.FState, Body: "x"}) {
		t.Error("bodies")
	}
	x := made(t, true, 0, 2000)
	if x.Write(0, "x") != api.ErrState || x.Close(0) != api.ErrState || made(t, false, 0, 2000).Open(0) != api.ErrState || x.Open(10) != api.OK || x.Open(10) != api.ErrState {
		t.Error("states")
	}
	if x.Write(9, strings.Repeat("x", api.MaxText+1)) != api.ErrInvalid || x.Write(9, "x") != api.ErrRange || x.Write(api.MaxTime+1, "") != api.ErrRange || x.Close(-1) != api.ErrRange || x.Take(9, nil) != api.ErrRange {
		t.Error("times")
	}
	for n, want := range map[int]api.Errno{0: api.ErrRange, 1: api.OK, 1000000: api.OK, 1000001: api.ErrRange} {
		if e := x.Limit(n); e != want {
			t.Error(n, e)
		}
	}
	for n, want := range map[int]api.Errno{0: api.ErrRange, 1: api.OK, 1400: api.OK, 1401: api.ErrRange} {
		if e := x.Body(n); e != want {
			t.Error(n, e)
		}
	}
	for n, want := range map[int]api.Errno{9: api.ErrRange, 10: api.OK, 60000: api.OK, 60001: api.ErrRange} {
		if e := x.Out(n); e != want {
			t.Error(n, e)
		}
	}
	if _, e := x.Read(-1); e != api.ErrRange {
		t.Error(e)
	}
	if s, e := x.Read(5); s != "" || e != api.OK {
		t.Error(e)
	}
	if x.Write(10, text("x", 60000)) != api.OK || x.Write(10, text("x", 40000)) != api.OK || x.Waiting() != 100000 || x.Write(10, "x") != api.ErrLimit {
		t.Error("ErrLimit")
	}
	if x.Close(10) != api.OK || x.Close(10) != api.ErrState || x.Write(10, "") != api.ErrState {
		t.Error("behind Close")
	}
	if _, e := x.When(); e != api.ErrNone {
		t.Error(e)
	}
	if x.Reset() != api.OK || x.Reset() != api.ErrState || x.State() != 5 || x.Waiting() != 0 {
		t.Error("Reset")
	}
	if _, e := x.Read(1); e != api.ErrNone {
		t.Error(e)
	}
	if l := send(t, x, 10); len(l) != 1 || l[0].Kind != api.FReset || len(send(t, x, 10)) != 0 {
		t.Error("a reset alone", l)
	}
}

func TestNumbers(t *testing.T) {
	for _, c := range []struct {
		a, b int
		want bool
	}{{65535, 0, true}, {0, 65535, false}, {0, 0, false}, {0, 32767, true}, {0, 32768, false}, {32768, 0, false}, {40000, 10, true}} {
		if got, e := Before(c.a, c.b); got != c.want || e != api.OK {
			t.Error(c, got)
		}
	}
	if _, e := Before(-1, 0); e != api.ErrRange {
		t.Error(e)
	}
	if s, e := Marked(10, []int{14, 12}); s != "\x05" || e != api.OK {
		t.Errorf("%q %d", s, e)
	}
	for _, c := range [][2]int{{10, 11}, {10, 44}, {10, 10}, {10, 9}, {-1, 3}, {65535, 65537}} {
		if _, e := Marked(c[0], []int{c[1]}); e != api.ErrRange {
			t.Error(c, e)
		}
	}
	if s, _ := Marked(65535, []int{32}); s != "\x00\x00\x00\x80" {
		t.Errorf("%q", s)
	}
	if _, e := Named(0, "12345"); e != api.ErrSize {
		t.Error(e)
	}
	if _, e := Named(65536, "12345"); e != api.ErrRange {
		t.Error(e)
	}
	for seed := range 50 {
		var came []int
		for d := firstMark; d <= lastMark; d++ {
			if k, _ := hash.Draw("marks"+strconv.Itoa(seed), d, 3); k == 0 {
				came = append(came, (65520+d)%65536)
			}
		}
		s, e := Marked(65520, came)
		l, f := Named(65520, s)
		if !slices.Equal(l, came) || e != api.OK || f != api.OK || s != "" && s[len(s)-1] == 0 {
			t.Error(came, l)
		}
	}
}

func TestP254Back(t *testing.T) {
	for k, p := range segments() {
		s, e := Encode(p)
		x, at, f := Decode(s)
		if x != p || at != 0 || e != api.OK || f != api.OK {
			t.Error(k, at, e, f)
		}
		for bit := range 8 * min(len(s), 60) {
			b := []byte(s)
			b[bit/8] ^= 1 << (bit % 8)
			if x, _, e := Decode(string(b)); e != api.ErrData || x != (api.Segment{}) {
				t.Error(k, bit, e)
			}
		}
	}
	fix := func(rest string) string { return hash.Sum(rest)[:4] + rest }
	head := func(kind, marks byte, window string) string {
		return string([]byte{kind, marks}) + strings.Repeat("\x00", 14) + window
	}
	for k, c := range []struct {
		s  string
		at int
	}{
		{"", 0}, {"12345", 5}, {strings.Repeat("\x00", 24), 0}, {fix(head(0, 0, "\x00\x00\x00\x00")), 4}, {fix(head(6, 0, "\x00\x00\x00\x00")), 4}, {fix(head(3, 5, "\x00\x00\x00\x0012345")), 5}, {fix(head(3, 2, "\x00\x00\x00\x001")), 25},
		{fix(head(3, 0, "\x00\x0f\x42\x41")), 20}, {fix(head(2, 0, "\x00\x00\x00\x00")), 24}, {fix(head(3, 1, "\x00\x00\x00\x0012")), 25}, {fix(head(2, 0, "\x00\x00\x00\x00"+strings.Repeat("x", 1401))), 24 + 1400}, {fix(head(3, 0, "\x00\x00\x00\x00")) + "x", 0},
	} {
		if _, at, e := Decode(c.s); at != c.at || e != api.ErrData {
			t.Error(k, at, e)
		}
	}
	if _, _, e := Decode(strings.Repeat("x", api.MaxText+1)); e != api.ErrInvalid {
		t.Error(e)
	}
}

func TestOpening(t *testing.T) {
	a, b := made(t, true, 65535, 5000), made(t, false, 9, 6000)
	b.Write(0, "x")
	if len(send(t, b, 0)) != 0 {
		t.Error("nothing in the state 0")
	}
	// Data, an end or a state in the state 0 is answered by a reset.
	for _, kind := range []int{api.FData, api.FEnd, api.FState} {
		p := api.Segment{Kind: kind, Conn: 77}
		if kind == api.FData {
			p.Body = "x"
		}
		take(t, b, 0, p, p)
		if l := send(t, b, 0); len(l) != 1 || l[0].Kind != api.FReset || b.State() != 0 {
			t.Error(l)
		}
		p.Conn = 78
		take(t, b, 0, p)
		if len(send(t, b, 0)) != 0 {
			t.Error("another Conn")
		}
	}
	a.Open(5)
	a.Write(5, "hello")
	l := send(t, a, 5)
	if len(l) != 1 || l[0] != (api.Segment{Kind: api.FOpen, Conn: 77, Seq: 65535, Window: 5000, Time: 5}) || a.State() != 1 {
		t.Error(l)
	}
	take(t, b, 7, l[0])
	r := send(t, b, 8)
	if len(r) != 1 || r[0] != (api.Segment{Kind: api.FState, Conn: 77, Seq: 9, Ack: 65535, Window: 6000, Time: 8, Late: 3}) || b.State() != 2 {
		t.Error(r)
	}
	if b.Write(8, "data") != api.OK || len(send(t, b, 8)) != 0 {
		t.Error("no data before a packet other than open came")
	}
	take(t, a, 9, api.Segment{Kind: api.FState, Conn: 77, Seq: 9, Ack: 3}, api.Segment{Kind: api.FData, Conn: 77, Seq: 9, Ack: 65535, Body: "x"})
	if a.State() != 1 {
		t.Error("another Ack")
	}
	take(t, a, 9, r...)
	l = send(t, a, 9)
	if a.State() != 2 || len(l) != 1 || l[0] != (api.Segment{Kind: api.FData, Conn: 77, Seq: 0, Ack: 8, Window: 5000, Body: "hello", Time: 9, Late: 1}) {
		t.Error(l)
	}
	take(t, b, 10, api.Segment{Kind: api.FOpen, Conn: 77, Seq: 65535})
	if x := send(t, b, 10); len(x) != 1 || x[0].Kind != api.FState {
		t.Error("a double of the open is answered", x)
	}
	take(t, b, 10, l...)
	if l := send(t, b, 10); len(l) != 1 || l[0].Kind != api.FData || l[0].Seq != 9 || l[0].Ack != 0 {
		t.Error(l)
	}
	if s, e := b.Read(3); s != "hel" || e != api.OK || b.Ready() != 2 {
		t.Error(s, e)
	}
	if bytes, lost, outs, trip := a.Told(); bytes != 1 || lost != 0 || outs != 0 || trip != 4 {
		t.Error(bytes, lost, outs, trip)
	}
}

func TestFastLoss(t *testing.T) {
	a, b := opened(t, 100000)
	a.Limit(100000)
	b.Limit(100000)
	take(t, a, 1, api.Segment{Kind: api.FState, Conn: 77, Seq: 500, Ack: 10, Window: 100000})
	a.Body(10)
	a.Write(1, text("w", 60))
	l := send(t, a, 1)
	if len(l) != 6 {
		t.Fatal(len(l))
	}
	// The second one is lost: three later ones make it go again, once.
	for i, k := range []int{0, 2, 3, 4} {
		take(t, b, 2, l[k])
		r := send(t, b, 2)
		if len(r) != 1 || r[0].Kind != api.FState || r[0].Ack != 11 {
			t.Error(r)
		}
		if want, _ := Marked(11, []int{13, 14, 15}[:i]); r[0].Marks != want {
			t.Errorf("%q", r[0].Marks)
		}
		take(t, a, 5, r...)
		again := send(t, a, 5)
		if i < 3 && len(again) != 0 || i == 3 && (len(again) != 1 || again[0].Seq != 12) {
			t.Error(i, again)
		}
	}
	if bytes, lost, outs, trip := a.Told(); bytes != 40 || lost != 1 || outs != 0 || trip != 4 {
		t.Error(bytes, lost, outs, trip)
	}
	take(t, b, 6, l[5])
	take(t, a, 6, send(t, b, 6)...)
	if len(send(t, a, 6)) != 0 {
		t.Error("once for this reason")
	}
	take(t, b, 6, l[1], l[1], l[3])
	take(t, a, 6, send(t, b, 6)...)
	if s, _ := b.Read(1000); s != text("w", 60) {
		t.Error("in order")
	}
	if n, bytes := a.Under(); n != 0 || bytes != 0 {
		t.Error(n)
	}
	sent, again, _ := a.Counts()
	_, _, doubles := b.Counts()
	if sent != 7 || again != 1 || doubles != 2 {
		t.Error(sent, again, doubles)
	}
	// An Ack of a number that was never sent is left out with its marks.
	a.Write(6, "more")
	send(t, a, 6)
	take(t, a, 6, api.Segment{Kind: api.FState, Conn: 77, Seq: 500, Ack: 30, Marks: "\xff"})
	if n, _ := a.Under(); n != 1 {
		t.Error(n)
	}
}

func TestTimeOuts(t *testing.T) {
	a, _ := opened(t, 5000)
	a.Write(0, "abc")
	send(t, a, 0)
	now := 0
	for k, wait := range []int{1000, 2000, 4000, 8000, 16000} {
		w, e := a.When()
		if w != now+wait+1 || e != api.OK {
			t.Error(k, w, e)
		}
		if len(send(t, a, w-1)) != 0 {
			t.Error("too early")
		}
		if l := send(t, a, w); len(l) != 1 || l[0].Body != "abc" {
			t.Error(l)
		}
		now = w
	}
	if l := send(t, a, now+32001); len(l) != 1 || l[0].Kind != api.FReset || a.State() != 5 {
		t.Error("the sixth one", l)
	}
	if _, _, outs, _ := a.Told(); outs != 6 {
		t.Error(outs)
	}
	if n, _ := a.Under(); n != 0 {
		t.Error(n)
	}
	b, _ := opened(t, 5000)
	b.Out(50000)
	b.Write(0, "abc")
	send(t, b, 0)
	send(t, b, 50001)
	if w, _ := b.When(); w != 50001+60001 {
		t.Error(w)
	}
	take(t, b, 60000, api.Segment{Kind: api.FState, Conn: 77, Seq: 500, Ack: 11, Window: 9})
	b.Write(60000, "abc")
	send(t, b, 60000)
	if w, _ := b.When(); w != 60000+50001 {
		t.Error("until something is acknowledged", w)
	}
	if _, _, _, trip := b.Told(); trip != -1 {
		t.Error("it went twice", trip)
	}
}

func TestWindows(t *testing.T) {
	a, b := opened(t, 1400)
	a.Write(0, text("w", 4000))
	l := send(t, a, 0)
	if len(l) != 1 || len(l[0].Body) != 1400 {
		t.Fatal("the other's window", len(l))
	}
	take(t, b, 0, l...)
	r := send(t, b, 0)
	if r[0].Window != 0 || b.Ready() != 1400 {
		t.Error(r)
	}
	take(t, a, 0, r...)
	l = send(t, a, 0)
	if len(l) != 1 {
		t.Error("a packet goes whatever its size if nothing is under way")
	}
	take(t, b, 0, l...)
	if r := send(t, b, 0); len(r) != 1 || r[0].Ack != 11 || b.Ready() != 1400 {
		t.Error("left out, and answered", r)
	}
	if s, _ := b.Read(5000); s != text("w", 4000)[:1400] {
		t.Error("Read")
	}
	take(t, b, 0, l...)
	if b.Ready() != 1400 {
		t.Error(b.Ready())
	}
	// A packet far beyond Ack is left out.
	c, d := opened(t, 100000)
	take(t, d, 0, api.Segment{Kind: api.FData, Conn: 77, Seq: 10 + 35, Ack: 499, Body: "x"}, api.Segment{Kind: api.FData, Conn: 77, Seq: 10 + 34, Ack: 499, Body: "y"})
	if len(d.kept) != 1 {
		t.Error(len(d.kept))
	}
	_ = c
}

// world is two ends and a road between them that loses, doubles and mixes by draws.
type world struct {
	a, b   *End
	ways   [2][][2]any
	seed   string
	draws  int
	loss   int
	now    int
	gotten [2]string
	wrote  [2]string
}

func (w *world) draw(n int) int {
	w.draws++
	v, _ := hash.Draw(w.seed, w.draws, n)
	return v
}

func (w *world) carry(t *testing.T, way int, l []api.Segment) {
	for _, p := range l {
		for range 1 + w.draw(5)/4 {
			if w.draw(100) >= w.loss {
				w.ways[way] = append(w.ways[way], [2]any{w.now + 5 + w.draw(40), p})
			}
		}
	}
}

func (w *world) step(t *testing.T) {
	for way, x := range []*End{w.b, w.a} {
		var came []api.Segment
		w.ways[way] = slices.DeleteFunc(w.ways[way], func(y [2]any) bool {
			if y[0].(int) > w.now {
				return false
			}
			came = append(came, y[1].(api.Segment))
			return true
		})
		take(t, x, w.now, came...)
		s, _ := x.Read(1 + w.draw(3000))
		w.gotten[way] += s
	}
	for way, x := range []*End{w.a, w.b} {
		w.carry(t, way, send(t, x, w.now))
		if n, bytes := x.Under(); n > 1 && bytes > x.limit {
			t.Error("limit", n, bytes)
		}
	}
	w.now += 1 + w.draw(20)
}

func TestP252Once(t *testing.T) {
	for s := range 12 {
		w := &world{seed: "world" + strconv.Itoa(s), loss: s * 3, a: made(t, true, 65500+s, 3000+s*2000), b: made(t, false, s*1000, 1400+s*900)}
		w.a.Open(0)
		closed := false
		for k := range 4000 {
			for i, x := range []*End{w.a, w.b} {
				if len(w.wrote[i]) < 20000 && k%7 == 0 {
					part := text("t"+strconv.Itoa(k), 1+w.draw(2000))
					if x.Write(w.now, part) == api.OK {
						w.wrote[i] += part
					}
				}
			}
			if len(w.wrote[0]) >= 20000 && len(w.wrote[1]) >= 20000 && !closed {
				closed = w.a.Close(w.now) == api.OK && w.b.Close(w.now) == api.OK
			}
			w.step(t)
			for i := range w.gotten {
				if !strings.HasPrefix(w.wrote[i], w.gotten[i]) {
					t.Fatal("once and in order", s)
				}
			}
			if closed && w.a.State() == 4 && w.b.State() == 4 {
				break
			}
		}
		for i, x := range []*End{w.b, w.a} {
			rest, _ := x.Read(100000)
			w.gotten[i] += rest
			if w.gotten[i] != w.wrote[i] || x.State() != 4 || !x.Ended() {
				t.Error("all", s, len(w.gotten[i]), len(w.wrote[i]), x.State())
			}
			if _, e := x.Read(1); e != api.ErrNone {
				t.Error(e)
			}
		}
	}
}

func TestP253All(t *testing.T) {
	a, b := opened(t, 100000)
	want := text("all", 50000)
	a.Write(0, want)
	a.Close(0)
	b.Close(0)
	got := ""
	for now := range 200 {
		take(t, b, now, send(t, a, now)...)
		take(t, a, now, send(t, b, now)...)
		s, _ := b.Read(100000)
		got += s
	}
	if got != want || a.State() != 4 || b.State() != 4 {
		t.Error(len(got), a.State(), b.State())
	}
	take(t, b, 200, api.Segment{Kind: api.FEnd, Conn: 77, Seq: 11, Ack: 499})
	if l := send(t, b, 200); len(l) != 1 || l[0].Kind != api.FState {
		t.Error("in the state 4 an end is answered", l)
	}
	if b.Reset() != api.ErrState {
		t.Error("closed")
	}
	take(t, b, 200, api.Segment{Kind: api.FReset, Conn: 77})
	if b.State() != 4 {
		t.Error("closed")
	}
	c, d := opened(t, 5000)
	c.Write(0, "kept")
	take(t, d, 0, send(t, c, 0)...)
	take(t, d, 0, api.Segment{Kind: api.FReset, Conn: 77})
	if s, e := d.Read(10); s != "kept" || e != api.OK || d.State() != 5 || len(send(t, d, 0)) != 0 {
		t.Error("what was passed may be read still", e)
	}
}

func TestP255Round(t *testing.T) {
	run := func(x, y int) (out []api.Segment) {
		a, b := made(t, true, x, 9000), made(t, false, y, 9000)
		a.Open(0)
		a.Write(0, text("r", 9000))
		a.Close(0)
		for now := range 40 {
			p, q := send(t, a, now*100), send(t, b, now*100)
			out = append(append(out, p...), q...)
			if now%5 == 1 && len(p) > 1 {
				p = p[1:]
			}
			take(t, b, now*100, p...)
			take(t, a, now*100, q...)
			b.Read(2000)
		}
		return out
	}
	first := run(0, 0)
	other := run(65530, 65520)
	if len(first) != len(other) || len(first) < 12 {
		t.Fatal(len(first), len(other))
	}
	for i, p := range first {
		q := other[i]
		if p.Kind == api.FOpen {
			p.Seq = 65530
		} else if q.Seq != p.Seq || true {
			shiftA, shiftB := 65530, 65520
			if p.Kind == api.FState || p.Kind == api.FEnd && i == len(first)-1 {
				shiftA, shiftB = shiftB, shiftA
			}
			p.Seq, p.Ack = turn(p.Seq+shiftA), turn(p.Ack+shiftB)
		}
		if !reflect.DeepEqual(p, q) {
			t.Error(i, p.Kind, p.Seq, q.Seq, p.Ack, q.Ack)
		}
	}
}

func TestP256Limit(t *testing.T) {
	a, _ := opened(t, 100000)
	take(t, a, 0, api.Segment{Kind: api.FState, Conn: 77, Seq: 500, Ack: 10, Window: 100000})
	a.Body(1000)
	a.Limit(3500)
	a.Write(0, text("l", 10000))
	if l := send(t, a, 0); len(l) != 3 {
		t.Error(len(l))
	}
	if n, bytes := a.Under(); n != 3 || bytes != 3000 || a.Waiting() != 7000 {
		t.Error(n, bytes, a.Waiting())
	}
	a.Limit(10)
	take(t, a, 0, api.Segment{Kind: api.FState, Conn: 77, Seq: 500, Ack: 13, Window: 100000})
	if l := send(t, a, 0); len(l) != 1 {
		t.Error("one packet", len(l))
	}
	a.Limit(2500)
	if l := send(t, a, 0); len(l) != 1 {
		t.Error(len(l))
	}
	// What goes again goes first, and if it does not fit nothing behind it goes.
	a.Limit(1500)
	if l := send(t, a, 1001); len(l) != 1 || l[0].Seq != 14 || a.Waiting() != 6000 {
		t.Error(l, a.Waiting())
	}
}
