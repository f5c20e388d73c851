package magnet

import (
	"slices"
	"strconv"
	"strings"
	"testing"

	"covey/addr"
	"covey/api"
	"covey/hash"
	"covey/meta"
)

func many(n int, s string) []string {
	var l []string
	for i := range n {
		l = append(l, s+strconv.Itoa(i))
	}
	return l
}

func peers(n int) []api.Addr {
	var l []api.Addr
	for i := range n {
		a, _ := addr.V4(10, 0, 0, i, 80)
		l = append(l, a)
	}
	return l
}

var (
	old  = hash.Old("x")
	new_ = hash.Sum("x")
)

func magnets() []api.Magnet {
	six := api.Addr{Family: 6, IP: strings.Repeat("\x01", 16), Port: 9}
	return []api.Magnet{
		{Old: old}, {New: new_}, {Old: old, New: new_, Name: "a b"},
		{Old: old, Name: strings.Repeat("\xff", 100), Trackers: many(10, "http://t/?&="), Webs: many(10, "%"), Peers: append(peers(19), six), Only: []api.Run{{From: 0, Count: 1}, {From: 2, Count: 38}}},
		{New: new_, Trackers: []string{strings.Repeat("+", 200)}, Only: []api.Run{{From: 39, Count: 1}}},
	}
}

func metaOf(version int, name string) api.Meta {
	m, e := meta.Make(name, version, 16, false, []api.File{{Path: []string{"a"}, Length: 40}}, []string{strings.Repeat("x", 40)})
	if e != api.OK {
		panic(e)
	}
	return m
}

func TestP91Errors(t *testing.T) {
	good := magnets()[3]
	for k, f := range []func(m *api.Magnet){
		func(m *api.Magnet) { m.Old = "" }, func(m *api.Magnet) { m.Old = "x" }, func(m *api.Magnet) { m.New = old }, func(m *api.Magnet) { m.Name += "x" },
		func(m *api.Magnet) { m.Trackers = many(11, "t") }, func(m *api.Magnet) { m.Webs = many(11, "t") }, func(m *api.Magnet) { m.Trackers = []string{""} },
		func(m *api.Magnet) { m.Webs = []string{strings.Repeat("x", 201)} }, func(m *api.Magnet) { m.Peers = peers(21) }, func(m *api.Magnet) { m.Peers = make([]api.Addr, 1) },
		func(m *api.Magnet) { m.Only = []api.Run{{From: 0, Count: 1}, {From: 1, Count: 1}} }, func(m *api.Magnet) { m.Only = []api.Run{{From: 39, Count: 2}} },
		func(m *api.Magnet) { m.Only = []api.Run{{From: 3, Count: 1}, {From: 1, Count: 1}} }, func(m *api.Magnet) { m.Only = []api.Run{{From: 3, Count: 0}} },
	} {
		m := good
		f(&m)
		_, e1 := Format(m)
		_, e2 := Names(m, api.Info{})
		_, e3 := Short(m)
		_, e4 := Join(good, m)
		_, e5 := Join(m, good)
		_, e6 := Wants(m, 0)
		for i, e := range []api.Errno{e1, e2, e3, e4, e5, e6} {
			if e != api.ErrInvalid || Valid(m) {
				t.Error(k, i, e)
			}
		}
	}
	if _, e := Names(good, api.Info{}); e != api.ErrInvalid {
		t.Error("Names", e)
	}
	if _, e := Of(api.Meta{}); e != api.ErrInvalid {
		t.Error("Of", e)
	}
	for _, n := range []int{-1, 0, 41} {
		if _, e := Wants(good, n); e != api.ErrRange {
			t.Error("Wants", e)
		}
	}
	long := strings.Repeat("x", api.MaxText+1)
	if _, e := Parse(long); e != api.ErrLong {
		t.Error("Parse", e)
	}
	if _, e := Unescape(long); e != api.ErrLong {
		t.Error("Unescape", e)
	}
}

func TestP92Back(t *testing.T) {
	for k, m := range magnets() {
		s, e := Format(m)
		x, f := Parse(s)
		if !Same(x, m) || e != api.OK || f != api.OK || !Valid(m) {
			t.Error(k, s, e, f)
		}
	}
	if s, _ := Format(api.Magnet{Old: strings.Repeat("\x00", 20), Name: "a b"}); s != "magnet:?xt=urn:cvo:0000000000000000000000000000000000000000&dn=a%20b" {
		t.Error("Format", s)
	}
	var all []byte
	for c := range 256 {
		all = append(all, byte(c))
	}
	s := Escape(string(all))
	if x, e := Unescape(s); x != string(all) || e != api.OK {
		t.Error("Unescape", e)
	}
	for c := range 256 {
		b := string([]byte{byte(c)})
		bare := strings.Contains("ABCDEFGHIJKLMNOPQRSTUVWXYZabcdefghijklmnopqrstuvwxyz0123456789-._~", b)
		if (Escape(b) == b) != bare || !bare && Escape(b) != "%"+strings.ToUpper(hash.Hex(b)) {
			t.Error("Escape", c)
		}
	}
	for _, s := range []string{"%", "%2", "%61", "%2f", "%zz", " ", "a/b", "%+1"} {
		if _, e := Unescape(s); e != api.ErrSyntax {
			t.Error("Unescape", s, e)
		}
	}
}

func TestP92Parse(t *testing.T) {
	xo, xn := "xt=urn:cvo:"+hash.Hex(old), "xt=urn:cvn:"+hash.Hex(new_)
	for s, want := range map[string]api.Magnet{
		xo:                                   {Old: old},
		strings.ToUpper(xo[11:]) + "=&" + xo: {Old: old},
		"dn=&" + xo:                          {Old: old},
		"foo=%zz&xt=urn:btih:zz&xt=zz&" + xn + "&xt=urn:cvo:" + strings.ToUpper(hash.Hex(old)): {Old: old, New: new_},
		"so=1%2C3%2c5,7-9&dn=%61+%2B%2b=&" + xo:                                                {Old: old, Name: "a+++=", Only: []api.Run{{From: 1, Count: 1}, {From: 3, Count: 1}, {From: 5, Count: 1}, {From: 7, Count: 3}}},
		"tr=http://x/&tr=http://x/&" + xo:                                                      {Old: old, Trackers: []string{"http://x/", "http://x/"}},
		"x.pe=10.0.0.0%3A80&" + xo:                                                             {Old: old, Peers: peers(1)},
		"x.pe=10.0.0.0:80&ws=%25&" + xo:                                                        {Old: old, Peers: peers(1), Webs: []string{"%"}},
	} {
		m, e := Parse("magnet:?" + s)
		if !Same(m, want) || e != api.OK {
			t.Error(s, m, e)
		}
	}
	for _, c := range []struct {
		s string
		e api.Errno
	}{
		{"", api.ErrNone}, {"dn=x", api.ErrNone}, {"xt=urn:x:y", api.ErrNone}, {"&" + xo, api.ErrSyntax}, {xo + "&", api.ErrSyntax}, {"dn&" + xo, api.ErrSyntax},
		{xo + "0", api.ErrSyntax}, {xo + "00", api.ErrSyntax}, {"xt=urn:cvn:" + hash.Hex(old), api.ErrSyntax}, {xo + "&" + xo, api.ErrDuplicate},
		{xo + "&xt=urn:cvo:" + strings.Repeat("0", 40), api.ErrDuplicate}, {"dn=&dn=a&" + xo, api.ErrDuplicate}, {"so=1&so=1&" + xo, api.ErrDuplicate}, {"so=&" + xo, api.ErrSyntax},
		{"so=40&" + xo, api.ErrSyntax}, {"so=1,2&" + xo, api.ErrSyntax}, {"so=%31&" + xo, api.ErrSyntax}, {"tr=&" + xo, api.ErrSyntax}, {"ws=&" + xo, api.ErrSyntax}, {"x.pe=&" + xo, api.ErrSyntax},
		{"dn=%&" + xo, api.ErrSyntax}, {"dn=%1&" + xo, api.ErrSyntax}, {"dn=%g1&" + xo, api.ErrSyntax}, {"dn=" + strings.Repeat("x", 101), api.ErrSyntax}, {"tr=" + strings.Repeat("x", 201), api.ErrSyntax},
		{strings.Repeat("tr=x&", 11) + xo, api.ErrLimit}, {strings.Repeat("ws=x&", 11) + "%", api.ErrLimit}, {strings.Repeat("x.pe=1.1.1.1:1&", 21) + xo, api.ErrLimit},
		{strings.Repeat("tr=x&", 10) + "tr=&" + xo, api.ErrSyntax}, {"dn=a&dn=%&" + xo, api.ErrSyntax}, {"x.pe=1.1.1.1:0&" + xo, api.ErrSyntax},
	} {
		if m, e := Parse("magnet:?" + c.s); e != c.e || !Same(m, api.Magnet{}) {
			t.Error(c.s, e)
		}
	}
	if _, e := Parse("magnet:" + xo); e != api.ErrSyntax {
		t.Error(e)
	}
}

func TestP93Names(t *testing.T) {
	for _, version := range []int{api.VOld, api.VNew, api.VBoth} {
		m := metaOf(version, "n")
		m.Trackers = [][]string{many(8, "a"), many(8, "b")}
		m.Webs = []string{"w"}
		x, e := Of(m)
		if e != api.OK || !Valid(x) || x.Name != "n" || !slices.Equal(x.Trackers, append(many(8, "a"), many(2, "b")...)) || !slices.Equal(x.Webs, m.Webs) {
			t.Error("Of", e)
		}
		if ok, e := Names(x, m.Info); !ok || e != api.OK {
			t.Error("Names", version, e)
		}
		_, _, short, _ := meta.Names(m.Info)
		if s, e := Short(x); s != short || e != api.OK {
			t.Error("Short", e)
		}
		for _, v := range []int{api.VOld, api.VNew, api.VBoth} {
			for _, name := range []string{"n", "m"} {
				other := metaOf(v, name)
				if ok, _ := Names(x, other.Info); ok != (v == version && name == "n") {
					t.Error("Names", version, v, name)
				}
			}
		}
		x.Old, x.New = old, ""
		if ok, _ := Names(x, m.Info); ok {
			t.Error("Names", version)
		}
	}
}

func TestP94Joined(t *testing.T) {
	for k, m := range magnets() {
		x, e := Join(m, m)
		if !Same(x, m) || e != api.OK {
			t.Error("Join", k, e)
		}
	}
	a := api.Magnet{Old: old, Trackers: []string{"t", "t", "u"}, Peers: peers(2), Only: []api.Run{{From: 1, Count: 1}}}
	b := api.Magnet{Old: old, New: new_, Name: "b", Trackers: []string{"v", "u", "v"}, Webs: []string{"w"}, Only: []api.Run{{From: 2, Count: 3}}}
	x, e := Join(a, b)
	if want := (api.Magnet{Old: old, New: new_, Name: "b", Trackers: []string{"t", "u", "v"}, Peers: peers(2), Webs: []string{"w"}, Only: []api.Run{{From: 1, Count: 4}}}); !Same(x, want) || e != api.OK {
		t.Error("Join", x, e)
	}
	b.Only = nil
	if x, _ := Join(a, b); len(x.Only) != 0 {
		t.Error("all", x.Only)
	}
	for _, c := range [][2]api.Magnet{{{Old: old}, {New: new_}}, {{Old: old}, {Old: hash.Old("y")}}, {{Old: old, New: new_}, {Old: old, New: hash.Sum("y")}}} {
		if _, e := Join(c[0], c[1]); e != api.ErrKind {
			t.Error("Join", e)
		}
	}
	if _, e := Join(api.Magnet{Old: old, Trackers: many(6, "a")}, api.Magnet{Old: old, Trackers: many(6, "b")}); e != api.ErrLimit {
		t.Error("Join", e)
	}
	if _, e := Join(api.Magnet{Old: old, Peers: peers(20)}, api.Magnet{Old: old, Peers: []api.Addr{{Family: 4, IP: "abcd", Port: 1}}}); e != api.ErrLimit {
		t.Error("Join", e)
	}
	if l, e := Wants(magnets()[3], 4); !slices.Equal(l, []int{0, 2, 3}) || e != api.OK {
		t.Error("Wants", l, e)
	}
	if l, _ := Wants(magnets()[0], 3); !slices.Equal(l, []int{0, 1, 2}) {
		t.Error("Wants", l)
	}
	if l, _ := Wants(magnets()[4], 3); len(l) != 0 {
		t.Error("Wants", l)
	}
}
