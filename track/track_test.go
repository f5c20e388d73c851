package track

import (
	"reflect"
	"slices"
	"strconv"
	"strings"
	"testing"

	"covey/addr"
	"covey/api"
	"covey/hash"
)

func name(s string) string { return hash.Old(s) }

func at4(n int) api.Addr {
	a, _ := addr.V4(10, 0, n/250, n%250, 80+n)
	return a
}

func at6(n int) api.Addr {
	return api.Addr{Family: 6, IP: strings.Repeat("\x20", 15) + string([]byte{byte(n)}), Port: 6881}
}

func announce(peer string, n, left, event, want int) api.Announce {
	return api.Announce{Name: name("c"), Peer: name(peer), Addr: at4(n), Up: 5, Down: 6, Left: left, Event: event, Want: want}
}

func announces() []api.Announce {
	a := announce("x", 1, 0, 0, -1)
	b := announce("y", 2, mostBytes, api.EStarted, 0)
	b.Name = "abcABC09-._~ %&=+/\x00\xff"[:20]
	c := announce("z", 3, 7, api.EStopped, 1000)
	c.Addr = at6(3)
	d := announce("z", 3, 7, api.EDone, 50)
	return []api.Announce{a, b, c, d}
}

func answers() []api.Answer {
	return []api.Answer{
		{Interval: 1}, {Interval: 100000, Seeds: 1000000, Others: 3, Peers: []api.Addr{at4(1), at4(0)}}, {Failure: "no"},
		{Interval: 7, Peers: []api.Addr{at4(1), at6(2), at6(1)}}, {Interval: 7, Peers: []api.Addr{at6(2)}},
	}
}

func packets_() []api.Packet {
	var l []api.Packet
	l = append(l, api.Packet{Ask: true, Kind: api.KConnect, Number: mostID}, api.Packet{Kind: api.KConnect, Conn: mostID, Number: 3})
	for _, a := range announces() {
		l = append(l, api.Packet{Ask: true, Kind: api.KAnnounce, Conn: 77, Number: 5, Announce: a})
	}
	l = append(l, api.Packet{Ask: true, Kind: api.KScrape, Names: []string{name("a"), name("b")}})
	l = append(l, api.Packet{Kind: api.KScrape, Number: 1, Scraped: []api.Scraped{{Seeds: 1, Done: 2, Others: 3}, {}}})
	l = append(l, api.Packet{Kind: api.KError, Number: 7, Error: "no"})
	l = append(l, api.Packet{Kind: api.KAnnounce, Number: 7, Family: 4, Answer: answers()[1]}, api.Packet{Kind: api.KAnnounce, Family: 6, Answer: answers()[4]}, api.Packet{Kind: api.KAnnounce, Family: 6, Answer: answers()[0]})
	return l
}

func TestP101Errors(t *testing.T) {
	good := announces()[0]
	for k, f := range []func(a *api.Announce){
		func(a *api.Announce) { a.Name = "x" }, func(a *api.Announce) { a.Peer += "x" }, func(a *api.Announce) { a.Addr.Port = 0 }, func(a *api.Announce) { a.Up = -1 },
		func(a *api.Announce) { a.Down = mostBytes + 1 }, func(a *api.Announce) { a.Left = -1 }, func(a *api.Announce) { a.Event = 4 }, func(a *api.Announce) { a.Want = -2 }, func(a *api.Announce) { a.Want = 1001 },
	} {
		a := good
		f(&a)
		x, _ := New("s", 1)
		_, e := Ask(a)
		_, g := x.Announce(-1, a)
		if ValidAnnounce(a) || e != api.ErrInvalid || g != api.ErrInvalid || ValidPacket(api.Packet{Ask: true, Kind: api.KAnnounce, Announce: a}) {
			t.Error(k, e, g)
		}
	}
	for k, a := range []api.Answer{{}, {Interval: 100001}, {Interval: 1, Seeds: -1}, {Interval: 1, Others: 1000001}, {Interval: 1, Peers: make([]api.Addr, 1)}, {Failure: strings.Repeat("x", 101)}, {Failure: "x", Interval: 1}} {
		if _, e := Tell(a); ValidAnswer(a) || e != api.ErrInvalid {
			t.Error(k, e)
		}
	}
	for k, f := range []func(p *api.Packet){
		func(p *api.Packet) { p.Number = -1 }, func(p *api.Packet) { p.Number = mostID + 1 }, func(p *api.Packet) { p.Kind = 4 }, func(p *api.Packet) { p.Kind = -1 }, func(p *api.Packet) { p.Conn = mostID + 1 },
	} {
		for _, p := range packets_() {
			f(&p)
			if _, e := Encode(p); ValidPacket(p) || e != api.ErrInvalid {
				t.Error(k, p, e)
			}
		}
	}
	var none *Tracker
	if _, e := none.Announce(0, good); e != api.ErrInvalid {
		t.Error(e)
	}
	if _, e := none.Scrape(0, nil); e != api.ErrInvalid || none.Peers("x") != nil || none.Names() != nil {
		t.Error(e)
	}
	if _, e := none.Text(0, ""); e != api.ErrInvalid {
		t.Error(e)
	}
	if _, e := New(strings.Repeat("x", 101), 0); e != api.ErrInvalid {
		t.Error(e)
	}
	for _, i := range []int{0, -1, 100001} {
		if _, e := New("x", i); e != api.ErrRange {
			t.Error(e)
		}
	}
	x, _ := New("s", 10)
	if _, e := x.Announce(5, good); e != api.OK {
		t.Error(e)
	}
	for _, now := range []int{-1, 4, api.MaxTime + 1} {
		_, e1 := x.Announce(now, good)
		_, e2 := x.Scrape(now, []string{})
		_, e3 := x.Connect(now, at4(1))
		_, e4 := x.Packet(now, at4(1), "")
		_, e5 := x.Text(now, "")
		if e1 != api.ErrRange || e2 != api.ErrRange || e3 != api.ErrRange || e4 != api.ErrRange || e5 != api.ErrRange {
			t.Error(now, e1, e2, e3, e4, e5)
		}
	}
	long := strings.Repeat("x", api.MaxText+1)
	if _, e := x.Text(-1, long); e != api.ErrLong {
		t.Error(e)
	}
	if _, e := x.Packet(-1, at4(1), long); e != api.ErrLong {
		t.Error(e)
	}
	if _, _, e := Decode(long, true, 5); e != api.ErrLong {
		t.Error(e)
	}
	if _, _, e := Decode("", true, 5); e != api.ErrRange {
		t.Error(e)
	}
	many := make([]string, 51)
	for i := range many {
		many[i] = name(strconv.Itoa(i))
	}
	for _, c := range []struct {
		l []string
		e api.Errno
	}{{nil, api.ErrSize}, {many, api.ErrSize}, {[]string{"x"}, api.ErrInvalid}, {[]string{many[0], many[0]}, api.ErrDuplicate}, {many[:50], api.OK}} {
		_, e1 := Scrape(c.l)
		_, e2 := x.Scrape(5, c.l)
		_, e3 := TellScrape(c.l, make([]api.Scraped, len(c.l)))
		if e1 != c.e || e2 != c.e || e3 != c.e {
			t.Error(c.e, e1, e2, e3)
		}
	}
	if _, e := TellScrape(many[:2], make([]api.Scraped, 1)); e != api.ErrSize {
		t.Error(e)
	}
}

func TestP102Back(t *testing.T) {
	for k, a := range announces() {
		s, e := Ask(a)
		x, f := Asked(s)
		if x != a || e != api.OK || f != api.OK {
			t.Error(k, s, e, f)
		}
		for _, other := range []string{s + "&", s + "&port=80", strings.Replace(s, "port=", "port=0", 1), strings.Replace(s, "?", "?x=1&", 1), s[1:], strings.Replace(s, "left=", "left=+", 1), strings.Replace(s, "&event", "&numwant=-1&event", 1) + "x", s[:len(s)-1] + "%"} {
			if x, e := Asked(other); x != (api.Announce{}) || e != api.ErrSyntax {
				t.Error(other, e)
			}
		}
	}
	s, _ := Ask(announces()[2])
	if !strings.HasSuffix(s, "&port=6881&uploaded=5&downloaded=6&left=7&event=stopped&numwant=1000&ip=[2020:2020:2020:2020:2020:2020:2020:2003]") {
		t.Error(s)
	}
	for k, a := range answers() {
		s, e := Tell(a)
		x, f := Told(s)
		if !reflect.DeepEqual(x.Peers, a.Peers) && len(a.Peers) > 0 || x.Failure != a.Failure || x.Seeds != a.Seeds || e != api.OK || f != api.OK {
			t.Error(k, s, e, f)
		}
		for _, other := range []string{s + "e", s[:len(s)-1], strings.Replace(s, "peers", "peerz", 1) + "i", "de", "le"} {
			if _, e := Told(other); e != api.ErrSyntax {
				t.Error(other, e)
			}
		}
	}
	if s, _ := Tell(answers()[0]); s != "d8:completei0e10:incompletei0e8:intervali1e5:peers0:e" {
		t.Error(s)
	}
	if _, e := Told("d8:completei0e10:incompletei0e8:intervali1e5:peers0:6:peers60:e"); e != api.ErrSyntax {
		t.Error(e)
	}
	names := []string{name("b"), name("a")}
	s, e := Scrape(names)
	x, f := Scraped(s)
	if !slices.Equal(x, names) || e != api.OK || f != api.OK {
		t.Error(s, e, f)
	}
	for _, other := range []string{s + "&", scrapePath, s + "&" + s[8:], "/scrape?info_hash=x", strings.ReplaceAll(s, "%", "%%")} {
		if _, e := Scraped(other); e != api.ErrSyntax {
			t.Error(other, e)
		}
	}
	l := []api.Scraped{{Seeds: 1}, {Done: 2, Others: 3}}
	s, e = TellScrape(names, l)
	slices.Sort(names)
	y, m, f := ToldScrape(s)
	if !slices.Equal(y, names) || len(m) != 2 || e != api.OK || f != api.OK || (m[0] == l[0]) != (y[0] == name("b")) {
		t.Error(s, e, f)
	}
	for _, other := range []string{s + "x", "de", "d5:filesdee", "x", "d5:filesd1:xdeee"} {
		if _, _, e := ToldScrape(other); e != api.ErrSyntax {
			t.Error(other, e)
		}
	}
	for k, p := range packets_() {
		s, e := Encode(p)
		family := max(4, p.Family)
		x, at, f := Decode(s, p.Ask, family)
		if back, _ := Encode(x); back != s || !reflect.DeepEqual(x, p) && len(p.Answer.Peers) > 0 || at != 0 || e != api.OK || f != api.OK {
			t.Error(k, at, e, f)
		}
	}
	if s, _ := Encode(packets_()[8]); s != "\x00\x00\x00\x03\x00\x00\x00\x07no" {
		t.Errorf("%q", s)
	}
}

func TestP102First(t *testing.T) {
	for k, p := range packets_() {
		s, _ := Encode(p)
		for n := range len(s) {
			x, at, e := Decode(s[:n], p.Ask, max(4, p.Family))
			if e == api.OK { // lists and texts may be shorter
				if back, _ := Encode(x); back != s[:n] {
					t.Error(k, n)
				}
			} else if at != n || e != api.ErrData || !reflect.DeepEqual(x, api.Packet{}) {
				t.Error(k, n, at, e)
			}
		}
		open := p.Ask && p.Kind == api.KScrape || !p.Ask && p.Kind != api.KConnect
		if _, at, e := Decode(s+"x", p.Ask, max(4, p.Family)); e != api.ErrData && p.Kind != api.KError || e == api.ErrData && at != len(s) && !open {
			t.Error(k, at, e)
		}
	}
	ask, _ := Encode(packets_()[2])
	change := func(s string, at int, with string) string { return s[:at] + with + s[at+len(with):] }
	for k, c := range []struct {
		s      string
		ask    bool
		family int
		at     int
	}{
		{change(ask, 0, "\x01"), true, 4, 0}, {change(ask, 8, "\x00\x00\x00\x00"), true, 4, 8}, {change(ask, 8, "\x00\x00\x00\x03"), true, 4, 8}, {change(ask, 12, "\xff"), true, 4, 12},
		{change(ask, 56, "\x01"), true, 4, 56}, {change(ask, 64, "\x01"), true, 4, 64}, {change(ask, 72, "\x01"), true, 4, 72}, {change(ask, 83, "\x04"), true, 4, 80}, {change(ask, 84, "\x05"), true, 4, 84},
		{change(ask, 89, "\x00\x00"), true, 4, 89}, {change(ask, 91, "\x00\x00\x03\xe9"), true, 4, 91}, {change(ask, 91, "\xff\xff\xff\xfe"), true, 4, 91}, {ask + "\x00", true, 4, 95},
		{magic + "\x00\x00\x00\x01\x00\x00\x00\x00", true, 4, 8}, {"covez" + magic[5:] + "\x00\x00\x00\x00\x00\x00\x00\x00", true, 4, 0},
		{put(0, 8) + put(2, 4) + put(1, 4), true, 4, 16}, {put(0, 8) + put(2, 4) + put(1, 4) + strings.Repeat("x", 1001), true, 4, 1016},
		{put(4, 4) + put(1, 4), false, 4, 0}, {put(3, 4) + put(1, 4), false, 4, 8}, {put(3, 4) + put(1, 4) + strings.Repeat("x", 101), false, 4, 108},
		{put(1, 4) + put(1, 4) + put(0, 4) + put(0, 8), false, 4, 8}, {put(1, 4) + put(1, 4) + put(1, 4) + put(0, 8) + "abcd\x00\x00", false, 4, 24}, {put(1, 4) + put(1, 4) + put(1, 4) + put(0, 8) + strings.Repeat("\x01", 17), false, 6, 37},
		{put(1, 4) + put(1, 4) + put(1, 4) + put(mostCount+1, 4), false, 6, 12}, {put(1, 4) + put(1, 4) + put(1, 4) + put(0, 8) + strings.Repeat("\x01", 6006), false, 4, 6020},
	} {
		if _, at, e := Decode(c.s, c.ask, c.family); at != c.at || e != api.ErrData {
			t.Error(k, at, e)
		}
	}
}

func TestP103Wires(t *testing.T) {
	a, _ := New("seed", 100)
	b, _ := New("seed", 100)
	c, _ := New("seed", 100)
	for i := range 300 {
		x := announce(strconv.Itoa(i%37), i%40, i%3, []int{0, 1, 2, 3, 0, 3, 0}[i%7], i%60-1)
		if i%5 == 0 {
			x.Name = name("other")
		}
		if i%4 == 0 {
			x.Addr = at6(i % 40)
		}
		now := i * 1700
		want, e := a.Announce(now, x)
		conn, f := b.Connect(now, x.Addr)
		bytes, _ := Encode(api.Packet{Ask: true, Kind: api.KAnnounce, Conn: conn, Number: i, Announce: x})
		out, g := b.Packet(now, x.Addr, bytes)
		text, _ := Ask(x)
		told, h := c.Text(now, text)
		if e != api.OK || f != api.OK || g != api.OK || h != api.OK {
			t.Fatal(i, e, f, g, h)
		}
		p, _, e := Decode(out, false, x.Addr.Family)
		if e != api.OK || p.Number != i || p.Answer.Seeds != want.Seeds || p.Answer.Others != want.Others || p.Answer.Interval != 100 {
			t.Error(i, p, e)
		}
		mine := slices.DeleteFunc(slices.Clone(want.Peers), func(y api.Addr) bool { return y.Family != x.Addr.Family })
		if !slices.Equal(p.Answer.Peers, mine) {
			t.Error(i, p.Answer.Peers, mine)
		}
		q, e := Told(told)
		slices.SortStableFunc(want.Peers, func(a, b api.Addr) int { return a.Family - b.Family })
		if !slices.Equal(q.Peers, want.Peers) || q.Seeds != want.Seeds || e != api.OK {
			t.Error(i, q, e)
		}
		names := []string{name("c"), name("other")}
		s1, _ := a.Scrape(now, names)
		s2, _ := b.Scrape(now, names)
		s3, _ := c.Scrape(now, names)
		if !slices.Equal(s1, s2) || !slices.Equal(s2, s3) || !slices.Equal(a.Peers(names[0]), b.Peers(names[0])) || !slices.Equal(b.Peers(names[0]), c.Peers(names[0])) || !slices.Equal(a.Names(), c.Names()) {
			t.Error(i, s1, s2, s3)
		}
	}
}

func TestP104Peers(t *testing.T) {
	x, _ := New("seed", 10)
	for i := range 60 {
		a, e := x.Announce(0, announce(strconv.Itoa(i), i, 5, api.EStarted, -1))
		if e != api.OK || len(a.Peers) != min(i, 50) || slices.Contains(a.Peers, at4(i)) {
			t.Error(i, len(a.Peers), e)
		}
	}
	a, _ := x.Announce(1, announce("0", 0, 5, 0, 7))
	// The order is that of the digests of seed, asking and peer.
	var want []string
	by := map[string]api.Addr{}
	for i := 1; i < 60; i++ {
		d := hash.Old("seed" + "61" + name(strconv.Itoa(i)))
		want = append(want, d)
		by[d] = at4(i)
	}
	slices.Sort(want)
	for k, p := range a.Peers {
		if p != by[want[k]] {
			t.Error(k, p)
		}
	}
	if len(a.Peers) != 7 {
		t.Error(len(a.Peers))
	}
	a, _ = x.Announce(20000, announce("1", 1, 5, api.EStopped, 7))
	if len(a.Peers) != 0 || a.Others != 59 || len(x.Peers(name("c"))) != 59 {
		t.Error(a)
	}
	if s, _ := x.Scrape(20001, []string{name("c")}); s[0] != (api.Scraped{Others: 1}) {
		t.Error(s)
	}
	if l := x.Peers(name("c")); !slices.Equal(l, []string{name("0")}) {
		t.Error(l)
	}
	if s, _ := x.Scrape(20002, []string{name("c")}); s[0] != (api.Scraped{}) || len(x.Names()) != 0 {
		t.Error(s)
	}
}

func TestP104Limits(t *testing.T) {
	x, _ := New("seed", 10)
	for i := range 1000 {
		x.Announce(0, announce(strconv.Itoa(i), 1, 5, 0, 0))
	}
	if _, e := x.Announce(20000, announce("more", 1, 5, 0, 0)); e != api.ErrLimit {
		t.Error(e)
	}
	if _, e := x.Announce(3, announce("7", 1, 5, 0, 0)); e != api.OK {
		t.Error("a refused time does not count", e)
	}
	text, _ := Ask(announce("more", 1, 5, 0, 0))
	if s, e := x.Text(3, text); s != "d14:failure reason4:fulle" || e != api.OK {
		t.Error(s, e)
	}
	if _, e := x.Announce(20001, announce("more", 1, 5, 0, 0)); e != api.OK || len(x.Peers(name("c"))) != 2 {
		t.Error(e)
	}
	y, _ := New("seed", 10)
	for i := range 1000 {
		a := announce("x", 1, 5, 0, 0)
		a.Name = name(strconv.Itoa(i))
		y.Announce(0, a)
	}
	if _, e := y.Announce(0, announce("x", 1, 5, 0, 0)); e != api.ErrLimit {
		t.Error(e)
	}
	if _, e := y.Announce(20001, announce("x", 1, 5, 0, 0)); e != api.OK {
		t.Error(e)
	}
}

func TestP104Packets(t *testing.T) {
	x, _ := New("seed", 100)
	from := at4(9)
	conn, _ := x.Connect(61000, from)
	if want, _ := hash.Draw("seed \x0a\x00\x00\x09\x00\x59", 1, 1000000000); conn != want {
		t.Error(conn, want)
	}
	hello, _ := Encode(api.Packet{Ask: true, Kind: api.KConnect, Number: 4})
	s, _ := x.Packet(61000, from, hello)
	if p, _, _ := Decode(s, false, 4); p.Conn != conn || p.Number != 4 {
		t.Error(p)
	}
	scrape, _ := Encode(api.Packet{Ask: true, Kind: api.KScrape, Conn: conn, Number: 8, Names: []string{name("a")}})
	twice, _ := Encode(api.Packet{Ask: true, Kind: api.KScrape, Conn: conn, Number: 8, Names: []string{name("a"), name("a")}})
	for _, c := range []struct {
		now    int
		from   api.Addr
		s      string
		number int
		text   string
	}{
		{61000, from, scrape, 8, ""}, {61000, at4(8), scrape, 8, "bad connection"}, {61000, from, twice, 8, "bad packet"}, {61000, from, scrape[:15], 0, "bad packet"},
		{61000, from, scrape[:16], 8, "bad packet"}, {61000, from, scrape[:12] + "\xff\xff\xff\xff", 0, "bad packet"}, {179999, from, scrape, 8, ""}, {180000, from, scrape, 8, "bad connection"},
	} {
		s, e := x.Packet(c.now, c.from, c.s)
		p, _, f := Decode(s, false, 4)
		if e != api.OK || f != api.OK || p.Number != c.number || p.Error != c.text {
			t.Error(c.now, p, e, f)
		}
	}
	for _, s := range []string{"", "/announce?", "x", strings.Repeat("x", 1000)} {
		if out, e := x.Text(180000, s); out != "d14:failure reason11:bad requeste" || e != api.OK {
			t.Error(out, e)
		}
	}
	text, _ := Scrape([]string{name("a")})
	if out, _ := x.Text(180000, text); !strings.HasPrefix(out, "d5:filesd20:") {
		t.Error(out)
	}
}

func TestP105Seeds(t *testing.T) {
	x, _ := New("seed", 100)
	steps := []struct {
		peer               string
		left, event        int
		seeds, others, all int
		peers              int
	}{
		{"a", 5, api.EStarted, 0, 1, 0, 0}, {"b", 0, api.EDone, 1, 1, 1, 1}, {"b", 0, api.EDone, 1, 1, 1, 1}, {"c", 0, 0, 2, 1, 1, 1}, {"a", 5, api.EDone, 2, 1, 1, 2},
		{"a", 0, api.EDone, 3, 0, 2, 0}, {"b", 0, api.EStopped, 2, 0, 2, 0}, {"b", 0, api.EDone, 3, 0, 3, 0}, {"d", 1, 0, 3, 1, 3, 3},
	}
	for i, s := range steps {
		a, e := x.Announce(i, announce(s.peer, i, s.left, s.event, -1))
		got, _ := x.Scrape(i, []string{name("c")})
		if e != api.OK || a.Seeds != s.seeds || a.Others != s.others || len(a.Peers) != s.peers || got[0] != (api.Scraped{Seeds: s.seeds, Done: s.all, Others: s.others}) || a.Seeds+a.Others != len(x.Peers(name("c"))) {
			t.Error(i, a, got, e)
		}
	}
	if s, _ := x.Scrape(api.MaxTime, []string{name("c")}); s[0] != (api.Scraped{Done: 3}) || len(x.Names()) != 1 || len(x.Peers(name("c"))) != 0 {
		t.Error("Done counts go on", s)
	}
}
