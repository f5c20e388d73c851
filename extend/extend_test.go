package extend

import (
	"reflect"
	"slices"
	"strconv"
	"strings"
	"testing"

	"covey/addr"
	"covey/api"
	"covey/benc"
	"covey/hash"
)

func at(n int) api.Addr {
	a, _ := addr.V4(8, 8, n>>8, n&255, 6881)
	return a
}

func at6(n int) api.Addr {
	return api.Addr{Family: 6, IP: strings.Repeat("\x20", 15) + string([]byte{byte(n)}), Port: 6881}
}

func ats(from, n int) []api.Addr {
	var l []api.Addr
	for k := range n {
		l = append(l, at(from+k))
	}
	return l
}

func greetings() []api.Greeting {
	return []api.Greeting{
		{}, {Exts: []api.Ext{{Name: "cv_pex", Number: 1}}}, {Exts: []api.Ext{{Name: "a", Number: 0}, {Name: "b", Number: 0}, {Name: "c", Number: 255}}, Client: strings.Repeat("c", 50), Size: 1000000, Queue: 5, Seed: true, Address: "abcd"},
		{Address: strings.Repeat("\x00", 16)},
	}
}

func TestP201Errors(t *testing.T) {
	long := strings.Repeat("x", api.MaxText+1)
	many := make([]string, 21)
	for i := range many {
		many[i] = "n" + strconv.Itoa(i)
	}
	exts := func(l ...api.Ext) api.Greeting { return api.Greeting{Exts: l} }
	for k, g := range []api.Greeting{
		exts(api.Ext{}), exts(api.Ext{Name: strings.Repeat("x", 21)}), exts(api.Ext{Name: "a"}, api.Ext{Name: "a"}), exts(api.Ext{Name: "b"}, api.Ext{Name: "a"}), exts(api.Ext{Name: "a", Number: 256}), exts(api.Ext{Name: "a", Number: -1}),
		exts(api.Ext{Name: "a", Number: 3}, api.Ext{Name: "b", Number: 3}), {Client: strings.Repeat("x", 51)}, {Size: -1}, {Queue: 1000001}, {Address: "abc"}, {Exts: make([]api.Ext, 21)},
	} {
		if _, e := Greet(g); e != api.ErrInvalid || ValidGreeting(g) {
			t.Error(k, e)
		}
	}
	var x *End
	var c *Collector
	var tell *Teller
	var hear *Hearer
	var relay *Relay
	_, e1 := x.Greeting()
	_, e2 := x.Number("a")
	_, e3 := x.Name(0)
	_, e4 := x.Send("a", "")
	_, e5 := c.Take("")
	_, e6 := c.Form()
	_, _, e7 := tell.Tell(-1, nil, nil)
	_, e8 := hear.Hear(-1, api.Gossip{})
	_, _, _, e9 := relay.Meet(at(1), at(2))
	for i, e := range []api.Errno{e1, e2, e3, e4, e5, e6, e7, e8, e9, x.Hear(api.Greeting{}), relay.Set(at(1), true, true)} {
		if e != api.ErrInvalid || c.Wanted() != nil || c.Tries() != 0 || hear.Known() != nil {
			t.Error("nil", i, e)
		}
	}
	for k, want := range map[string]api.Errno{"": api.ErrInvalid, strings.Repeat("x", 21): api.ErrInvalid, "n3": api.ErrDuplicate, "ok": api.ErrLimit} {
		if _, e := NewEnd(append(slices.Clone(many), k)); e != want {
			t.Error(k, e)
		}
	}
	end, _ := NewEnd(many[:20])
	end.Hear(exts(api.Ext{Name: "a", Number: 7}))
	if _, e := end.Send("b", strings.Repeat("x", 4097)); e != api.ErrName {
		t.Error(e)
	}
	if _, e := end.Send("a", strings.Repeat("x", 4097)); e != api.ErrSize {
		t.Error(e)
	}
	if _, e := end.Send("a", long); e != api.ErrLong {
		t.Error(e)
	}
	for n, want := range map[int]api.Errno{0: api.ErrRange, 256: api.ErrRange, 21: api.ErrNone, 20: api.OK} {
		if _, e := end.Name(n); e != want {
			t.Error(n, e)
		}
	}
	_, e1 = ReadGreeting(long)
	_, _, _, _, e2 = ReadPart(long)
	_, e3 = ReadGossip(long)
	_, e4 = ReadPunch(long)
	_, e5 = ReadDontHave(long)
	if e1 != api.ErrLong || e2 != e1 || e3 != e1 || e4 != e1 || e5 != e1 {
		t.Error(e1, e2, e3, e4, e5)
	}
	for i, want := range map[int]api.Errno{-1: api.ErrRange, 1 << 32: api.ErrRange, 1<<32 - 1: api.OK, 0: api.OK, 258: api.OK} {
		s, e := DontHave(i)
		if e != want {
			t.Error(i, e)
		}
		if n, f := ReadDontHave(s); e == api.OK && (n != i || f != api.OK) {
			t.Error(i, n, f)
		}
	}
	if _, e := ReadDontHave("12345"); e != api.ErrSize {
		t.Error(e)
	}
}

func TestP202Back(t *testing.T) {
	for k, g := range greetings() {
		s, e := Greet(g)
		x, f := ReadGreeting(s)
		if !reflect.DeepEqual(x, g) || e != api.OK || f != api.OK {
			t.Error(k, s, e, f)
		}
	}
	if s, _ := Greet(greetings()[1]); s != "d1:md6:cv_pexi1eee" {
		t.Error(s)
	}
	for s, want := range map[string]api.Errno{
		"de": api.OK, "d1:xi1e4:zzzzle6:yourip0:13:metadata_sizei0e4:reqqi0e11:upload_onlyi0ee": api.ErrSyntax, "d13:metadata_sizei0e4:reqqi0e11:upload_onlyi0e1:xi1e6:yourip0:e": api.OK, "le": api.ErrData, "i1e": api.ErrData, "x": api.ErrSyntax, "dee": api.ErrSyntax,
		strings.Repeat("l", 13) + strings.Repeat("e", 13): api.ErrLimit, "d11:upload_onlyi2ee": api.ErrData, "d11:upload_onlyi-1ee": api.ErrData, "d1:mlee": api.ErrData, "d1:md1:a1:bee": api.ErrData, "d1:md0:i1eee": api.ErrData,
		"d1:md1:ai256eee": api.ErrData, "d1:vi1ee": api.ErrData, "d6:yourip3:abce": api.ErrData, "d13:metadata_sizei-1ee": api.ErrData, "d4:reqqi1000001ee": api.ErrData, "d1:v51:" + strings.Repeat("x", 51) + "e": api.ErrData,
	} {
		if g, e := ReadGreeting(s); e != want || e != api.OK && !reflect.DeepEqual(g, api.Greeting{}) {
			t.Error(s, e)
		}
	}
	for k, p := range []api.Punch{{Kind: api.PMeet, Addr: at(1)}, {Kind: api.PCall, Addr: at6(2)}, {Kind: api.PError, Addr: at(3), Code: 4}, {Kind: api.PError, Addr: at6(3), Code: 1}} {
		s, e := Punch(p)
		x, f := ReadPunch(s)
		if x != p || e != api.OK || f != api.OK || !ValidPunch(p) {
			t.Error(k, e, f)
		}
		for _, other := range []string{s + "x", s[1:], s[:len(s)-1], "", "\x01", "\x03\x00", "\x04" + s[1:], "\x00" + s[1:], s[:1] + "\x02" + s[2:], s[:1] + string([]byte{s[1] ^ 1}) + s[2:]} {
			if x, e := ReadPunch(other); e != api.ErrData || x != (api.Punch{}) {
				t.Errorf("%d %q %d", k, other, e)
			}
		}
	}
	if s, _ := Punch(api.Punch{Kind: api.PError, Addr: at(1), Code: 2}); s != "\x03\x00\x08\x08\x00\x01\x1a\xe1\x02" {
		t.Errorf("%q", s)
	}
	for _, p := range []api.Punch{{}, {Kind: api.PMeet}, {Kind: api.PMeet, Addr: at(1), Code: 1}, {Kind: api.PError, Addr: at(1)}, {Kind: api.PError, Addr: at(1), Code: 5}, {Kind: 4, Addr: at(1)}} {
		if _, e := Punch(p); e != api.ErrInvalid || ValidPunch(p) {
			t.Error(p, e)
		}
	}
	for k, g := range []api.Gossip{{}, {Added: []api.Addr{at(2), at6(1), at(1)}, Seeds: []bool{true, true, false}, Dropped: []api.Addr{at6(3), at(1)}}, {Added: ats(0, 50), Seeds: make([]bool, 50), Dropped: ats(0, 50)}} {
		s, e := Gossip(g)
		x, f := ReadGossip(s)
		if e != api.OK || f != api.OK || len(x.Added) != len(g.Added) || len(x.Dropped) != len(g.Dropped) {
			t.Error(k, s, e, f)
		}
		for i, a := range x.Added {
			if g.Seeds[slices.Index(g.Added, a)] != x.Seeds[i] || i > 0 && x.Added[i-1].Family > a.Family {
				t.Error(k, i)
			}
		}
	}
	if s, _ := Gossip(api.Gossip{Added: []api.Addr{at(1)}, Seeds: []bool{true}}); s != "d5:added6:\x08\x08\x00\x01\x1a\xe17:added.f1:\x02e" {
		t.Errorf("%q", s)
	}
	own, _ := addr.V4(127, 0, 0, 1, 1)
	for k, g := range []api.Gossip{{Added: []api.Addr{at(1)}}, {Seeds: []bool{true}}, {Added: []api.Addr{at(1), at(1)}, Seeds: make([]bool, 2)}, {Dropped: []api.Addr{own}}, {Dropped: ats(0, 51)}, {Dropped: make([]api.Addr, 1)}} {
		if _, e := Gossip(g); e != api.ErrInvalid || ValidGossip(g) {
			t.Error(k, e)
		}
	}
	pack, _ := addr.Pack(at(1))
	for s, want := range map[string]api.Errno{"de": api.OK, "d1:xi1ee": api.OK, "d5:added0:7:added.f0:e": api.OK, "le": api.ErrData, "": api.ErrSyntax, "d5:added6:" + pack + "e": api.ErrData, "d7:added.f1:\x02e": api.ErrData, "d5:added6:" + pack + "7:added.f1:\x01e": api.ErrData, "d5:added5:12345e": api.ErrData,
		"d5:added6:" + pack + "7:added.f1:\x02e": api.OK, "d7:dropped12:" + pack + pack + "e": api.ErrData, "d7:droppedi1ee": api.ErrData, "d7:dropped6:\x7f\x00\x00\x01\x00\x01e": api.ErrData, strings.Repeat("l", 13): api.ErrLimit} {
		if g, e := ReadGossip(s); e != want || e != api.OK && len(g.Added)+len(g.Seeds)+len(g.Dropped) > 0 {
			t.Errorf("%q %d", s, e)
		}
	}
}

func TestP203Numbers(t *testing.T) {
	a, _ := NewEnd([]string{"z", "cv_pex", "both"})
	b, _ := NewEnd([]string{"both", "cv_pex", "only"})
	ga, _ := a.Greeting()
	gb, _ := b.Greeting()
	if !reflect.DeepEqual(ga.Exts, []api.Ext{{Name: "both", Number: 3}, {Name: "cv_pex", Number: 2}, {Name: "z", Number: 1}}) {
		t.Error(ga)
	}
	if a.Hear(gb) != api.OK || b.Hear(ga) != api.OK {
		t.Error("Hear")
	}
	for _, c := range []struct {
		from, to *End
		names    []string
	}{{a, b, []string{"both", "cv_pex", "only"}}, {b, a, []string{"both", "cv_pex", "z"}}} {
		for _, name := range c.names {
			m, e := c.from.Send(name, "data")
			n, _ := c.from.Number(name)
			back, f := c.to.Name(m.Index)
			if back != name || m.Kind != api.MExtended || m.Data != "data" || n != m.Index || e != api.OK || f != api.OK {
				t.Error(name, m, e, f)
			}
		}
	}
	a.Hear(api.Greeting{Exts: []api.Ext{{Name: "both", Number: 0}, {Name: "more", Number: 2}}})
	if _, e := a.Number("both"); e != api.ErrName {
		t.Error(e)
	}
	n, _ := a.Number("more")
	m, _ := a.Number("cv_pex")
	if n != 2 || m != 2 {
		t.Error("one number of two names", n, m)
	}
}

func TestP204Proved(t *testing.T) {
	for _, size := range []int{1, 63, 64, 65, 300} {
		form, _ := hash.Stream("form", 0, size)
		for _, name := range []string{hash.Old(form), hash.Sum(form)} {
			c, e := Collect(size, name)
			n := (size + 63) / 64
			if e != api.OK || len(c.Wanted()) != n {
				t.Error(size, e)
			}
			for round := range 2 {
				for i := range n {
					k := (i*7 + 3) % n
					if n%7 == 0 {
						k = i
					}
					s, e := Part(form, k)
					kind, part, total, data, f := ReadPart(s)
					if kind != 1 || part != k || total != size || data != form[64*k:min(size, 64*k+64)] || e != api.OK || f != api.OK {
						t.Error(k, kind, part, total, e, f)
					}
					last := i == n-1
					if round == 0 && last {
						s = s[:len(s)-1] + string([]byte{s[len(s)-1] ^ 1})
					}
					done, e := c.Take(s)
					want := api.OK
					if round == 0 && last {
						want = api.ErrProof
					}
					if done != (last && round == 1) || e != want {
						t.Error(size, round, i, done, e)
					}
					if !last {
						if _, e := c.Take(s); e != api.ErrDuplicate {
							t.Error(e)
						}
						if _, e := c.Form(); e != api.ErrState {
							t.Error(e)
						}
					}
				}
				if round == 0 && (c.Tries() != 1 || len(c.Wanted()) != n) {
					t.Error("all are wanted anew", c.Tries())
				}
			}
			if s, e := c.Form(); s != form || e != api.OK || len(c.Wanted()) != 0 {
				t.Error(e)
			}
			if _, e := c.Take("x"); e != api.ErrState {
				t.Error(e)
			}
		}
	}
	c, _ := Collect(100, hash.Old("x"))
	ask, _ := Ask(1)
	refuse, _ := Refuse(1)
	other, _ := Part(strings.Repeat("x", 99), 0)
	for s, want := range map[string]api.Errno{"x": api.ErrSyntax, ask: api.ErrKind, refuse: api.ErrKind, other: api.ErrSize, strings.Repeat("x", api.MaxText+1): api.ErrLong} {
		if _, e := c.Take(s); e != want {
			t.Error(s[:1], e)
		}
	}
	if ask != "d8:msg_typei0e5:piecei1ee" {
		t.Error(ask)
	}
	for s, want := range map[string]api.Errno{
		ask: api.OK, refuse: api.OK, ask + "x": api.ErrSyntax, "d8:msg_typei0e5:piecei1e3:zzzi1ee": api.OK, "le": api.ErrSyntax, "i1e": api.ErrSyntax, "": api.ErrSyntax, "de": api.ErrData, "dex": api.ErrSyntax, "d5:piecei1ee": api.ErrData,
		"d8:msg_typei3e5:piecei1ee": api.ErrData, "d8:msg_typei-1e5:piecei1ee": api.ErrData, "d8:msg_typei0e5:piecei-1ee": api.ErrData, "d8:msg_type1:05:piecei1ee": api.ErrData, "d8:msg_typei1e5:piecei0ee": api.ErrData, "d8:msg_typei1e5:piecei0e10:total_sizei0ee": api.ErrData,
		"d8:msg_typei1e5:piecei0e10:total_sizei3eeabc": api.OK, "d8:msg_typei1e5:piecei0e10:total_sizei3eeab": api.ErrData, "d8:msg_typei1e5:piecei0e10:total_sizei3eeabcd": api.ErrData, "d8:msg_typei1e5:piecei1e10:total_sizei64ee": api.ErrData,
		"d8:msg_typei1e5:piecei9223372036854775807e10:total_sizei3eeabc": api.ErrData, strings.Repeat("l", 13): api.ErrLimit, "d8:msg_typei7e5:piecei1eex": api.ErrSyntax,
	} {
		if _, _, _, data, e := ReadPart(s); e != want || e != api.OK && data != "" {
			t.Error(s, e)
		}
	}
	for k, e := range map[string]api.Errno{"0": api.ErrRange, "x": api.ErrInvalid} {
		size := len(k) - 1
		if k == "x" {
			size = 1
		}
		if _, f := Collect(size, k); f != e {
			t.Error(k, f)
		}
	}
	if _, e := Collect(api.MaxText+1, hash.Zero()); e != api.ErrRange {
		t.Error(e)
	}
	for k, c := range []struct {
		form string
		part int
		e    api.Errno
	}{{"", -1, api.ErrRange}, {"", 0, api.ErrSize}, {"abc", 1, api.ErrRange}, {strings.Repeat("x", api.MaxText+1), -1, api.ErrLong}} {
		if _, e := Part(c.form, c.part); e != c.e {
			t.Error(k, e)
		}
	}
	if _, e := Ask(-1); e != api.ErrRange {
		t.Error(e)
	}
	v, _, _, _ := benc.Read(ask)
	if !benc.Valid(v) {
		t.Error("benc")
	}
}

func TestP205Told(t *testing.T) {
	tell, hear := NewTeller(), NewHearer()
	all := ats(0, 130)
	now := 0
	var peers []api.Addr
	for round := range 12 {
		from := min(round, 6) * 5
		peers = slices.Clone(all[from : from+100-round*3])
		slices.Reverse(peers)
		seeds := make([]bool, len(peers))
		for i, a := range peers {
			seeds[i] = a.IP[3]%2 == 0
		}
		g, due, e := tell.Tell(now, peers, seeds)
		if e != api.OK || due != (len(g.Added)+len(g.Dropped) > 0) {
			t.Error(round, due, e)
		}
		for i, a := range g.Added {
			if g.Seeds[i] != (a.IP[3]%2 == 0) {
				t.Error("seeds")
			}
		}
		if _, again, _ := tell.Tell(now+59, ats(0, 3), make([]bool, 3)); again && due {
			t.Error("too soon")
		}
		if due {
			if _, e := hear.Hear(now, g); e != api.OK {
				t.Error(e)
			}
			if l, e := hear.Hear(now+49, g); e != api.ErrState || len(l) != 0 {
				t.Error(e)
			}
		}
		now += 60
	}
	for range 6 {
		g, due, _ := tell.Tell(now, peers, make([]bool, len(peers)))
		if due {
			hear.Hear(now, g)
		}
		now += 60
	}
	want, _ := addr.Sort(peers)
	if !slices.Equal(hear.Known(), want) {
		t.Error(len(hear.Known()), len(want))
	}
	if _, due, e := tell.Tell(now, peers, make([]bool, len(peers))); due || e != api.OK {
		t.Error("nothing changed", e)
	}
	own, _ := addr.V4(127, 0, 0, 1, 1)
	for k, c := range []struct {
		now   int
		peers []api.Addr
		seeds int
		e     api.Errno
	}{{-1, []api.Addr{own}, 0, api.ErrInvalid}, {now - 1, nil, 0, api.ErrRange}, {api.MaxTime + 1, nil, 0, api.ErrRange}, {now + 9, ats(0, 2), 1, api.ErrSize}, {now + 9, []api.Addr{at(1), at(1)}, 2, api.ErrDuplicate}, {now, nil, 0, api.OK}} {
		if _, _, e := tell.Tell(c.now, c.peers, make([]bool, c.seeds)); e != c.e {
			t.Error(k, e)
		}
	}
	h := NewHearer()
	l, e := h.Hear(0, api.Gossip{Added: []api.Addr{at(3), at(1), at(2)}, Seeds: make([]bool, 3), Dropped: []api.Addr{at(1)}})
	if !slices.Equal(l, []api.Addr{at(3), at(2)}) || e != api.OK {
		t.Error(l, e)
	}
	for k := range 5 {
		h.Hear(50*k+50, api.Gossip{Added: ats(100+50*k, 50), Seeds: make([]bool, 50)})
	}
	if len(h.Known()) != 200 {
		t.Error(len(h.Known()))
	}
	h.Hear(290, api.Gossip{})
	if _, e := h.Hear(289, api.Gossip{}); e != api.ErrRange {
		t.Error("a refused call counts", e)
	}
}

func TestMeet(t *testing.T) {
	r := NewRelay()
	r.Set(at(1), true, true)
	r.Set(at(2), true, true)
	r.Set(at(3), true, false)
	r.Set(at(4), false, true)
	a, b, both, e := r.Meet(at(1), at(2))
	if a != (api.Punch{Kind: api.PCall, Addr: at(2)}) || b != (api.Punch{Kind: api.PCall, Addr: at(1)}) || !both || e != api.OK {
		t.Error(a, b, both, e)
	}
	for k, c := range []struct{ from, to, code int }{{1, 1, 4}, {1, 9, 1}, {1, 4, 2}, {1, 3, 3}, {3, 1, 3}} {
		a, b, both, e := r.Meet(at(c.from), at(c.to))
		if a != (api.Punch{Kind: api.PError, Addr: at(c.to), Code: c.code}) || b != (api.Punch{}) || both || e != api.OK {
			t.Error(k, a, b, both, e)
		}
	}
	for _, n := range []int{4, 9} {
		if _, _, _, e := r.Meet(at(n), at(1)); e != api.ErrState {
			t.Error(e)
		}
	}
	r.Set(at(4), true, false)
	if _, _, _, e := r.Meet(at(4), api.Addr{}); e != api.ErrInvalid {
		t.Error(e)
	}
}
