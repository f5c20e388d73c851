package query

import (
	"strings"
	"testing"

	"covey/addr"
	"covey/api"
	"covey/benc"
	"covey/hash"
	"covey/sign"
)

func id(c string) string { return strings.Repeat(c, 20) }

func at4(n int) api.Addr {
	a, _ := addr.V4(8, 8, 0, n, 80)
	return a
}

func at6(n int) api.Addr {
	return api.Addr{Family: 6, IP: strings.Repeat("\x20", 15) + string([]byte{byte(n)}), Port: 6881}
}

func nodes(four, six int) []api.Node {
	var l []api.Node
	for i := range four {
		l = append(l, api.Node{ID: hash.Old("n" + string(rune('a'+i))), Addr: at4(i)})
	}
	for i := range six {
		l = append(l, api.Node{ID: hash.Old("m" + string(rune('a'+i))), Addr: at6(i)})
	}
	return l
}

func peers(n int) []api.Addr {
	var l []api.Addr
	for i := range n {
		if i%3 == 0 {
			l = append(l, at6(i))
		} else {
			l = append(l, at4(i))
		}
	}
	return l
}

func item(salt string) api.Item {
	i, e := sign.Make(77, salt, 5, "d1:ali1eee")
	if e != api.OK {
		panic(e)
	}
	return i
}

func messages() []api.Query {
	q := func(verb int) api.Query {
		m := api.Query{Kind: asks, Verb: verb, Number: "aa", ID: id("x"), ReadOnly: verb%2 == 0}
		if targeted(verb) {
			m.Target = id("t")
		}
		return m
	}
	r := func(verb int) api.Query { return api.Query{Kind: answers, Verb: verb, Number: "12345678", ID: id("y")} }
	announce, own, both := q(api.QAnnounce), q(api.QAnnounce), q(api.QAnnounce)
	announce.Port, announce.Token = 65535, "t"
	own.Own, own.Token = true, id("k")
	both.Own, both.Port, both.Token = true, 1, "tok"
	put, plain, cas := q(api.QPut), q(api.QPut), q(api.QPut)
	put.Token, put.Item, put.Old = "t", item(""), -1
	plain.Token, plain.Plain, plain.HasPlain = "t", "le", true
	cas.Token, cas.Item, cas.Old = "t", item("salt"), 0
	unsigned := put
	unsigned.Item.Sign = ""
	find, many, some, token := r(api.QFind), r(api.QPeers), r(api.QPeers), r(api.QPeers)
	find.Nodes = nodes(3, 4)
	many.Nodes, many.Peers, many.Token = nodes(16, 0), peers(50), "tok"
	some.Peers, some.Nodes = peers(1), nodes(0, 2)
	token.Token = id("z")
	none, got, had := r(api.QGet), r(api.QGet), r(api.QGet)
	got.Item, got.Token = item("s"), "t"
	had.Plain, had.HasPlain, had.Nodes = "i-5e", true, nodes(1, 1)
	sample, empty := r(api.QSample), r(api.QSample)
	sample.Samples, sample.Interval, sample.Total, sample.Nodes = []string{id("b"), id("a")}, 21600, 1000000, nodes(2, 0)
	fail := api.Query{Kind: fails, Number: "z", Code: 203, Text: "bad"}
	return []api.Query{q(api.QPing), q(api.QFind), q(api.QPeers), announce, own, both, q(api.QGet), put, plain, cas, unsigned, q(api.QSample),
		r(api.QPing), r(api.QFind), find, r(api.QPeers), many, some, token, r(api.QAnnounce), none, got, had, r(api.QPut), sample, empty, fail, {Kind: fails, Number: "z", Code: 302}}
}

func verbOf(m api.Query) int { return max(m.Verb, 1) }

func TestP151Errors(t *testing.T) {
	for k, f := range []func(m *api.Query){
		func(m *api.Query) { m.Kind = 0 }, func(m *api.Query) { m.Kind = 4 }, func(m *api.Query) { m.Number = "" }, func(m *api.Query) { m.Number = "123456789" },
		func(m *api.Query) { m.Verb = 8 }, func(m *api.Query) { m.Verb = -1 }, func(m *api.Query) { m.ID += "x" }, func(m *api.Query) { m.Target += "x" }, func(m *api.Query) { m.Port -= 70000 },
		func(m *api.Query) { m.Token = strings.Repeat("x", 21) }, func(m *api.Query) { m.Nodes = nodes(17, 0) }, func(m *api.Query) { m.Nodes = []api.Node{{}} }, func(m *api.Query) { m.Peers = peers(51) },
		func(m *api.Query) { m.Nodes = append(nodes(0, 1), nodes(1, 0)...) }, func(m *api.Query) { m.Peers = make([]api.Addr, 1) }, func(m *api.Query) { m.Samples = []string{"x"} },
		func(m *api.Query) { m.Samples = make([]string, 21) }, func(m *api.Query) { m.Interval = 21601 }, func(m *api.Query) { m.Total = -1 }, func(m *api.Query) { m.Code = 200 },
		func(m *api.Query) { m.Text = strings.Repeat("x", 101) }, func(m *api.Query) { m.Old = -2 }, func(m *api.Query) { m.Item.Key = "x" }, func(m *api.Query) { m.Item.Number = -1 }, func(m *api.Query) { m.Item.Sign = strings.Repeat("x", 65) },
		func(m *api.Query) { m.Plain = "x" }, func(m *api.Query) { m.HasPlain = !m.HasPlain }, func(m *api.Query) { m.Item, m.Plain, m.HasPlain = item(""), "le", true },
	} {
		for i, m := range messages() {
			f(&m)
			_, e1 := Format(m)
			_, e2 := Size(m)
			_, e3 := Cut(m, -1)
			_, e4 := Answer(m, id("x"))
			_, e5 := Failed(m, 0, "")
			if Valid(m) || e1 != api.ErrInvalid || e2 != e1 || e3 != e1 || e4 != e1 || e5 != e1 {
				t.Error(k, i, e1, e2, e3, e4, e5)
			}
		}
	}
	// Fields that a message does not have.
	for i, m := range messages() {
		for k, f := range []func(m *api.Query) bool{
			func(m *api.Query) bool { m.ReadOnly = true; return m.Kind != asks }, func(m *api.Query) bool { m.Own = true; return m.Verb != api.QAnnounce || m.Kind != asks },
			func(m *api.Query) bool { m.Interval = 1; return m.Verb != api.QSample || m.Kind != answers }, func(m *api.Query) bool { m.Old = 1; return m.Kind != asks || m.Item.Key == "" },
			func(m *api.Query) bool { m.Text = "x"; return m.Kind != fails }, func(m *api.Query) bool { m.Peers = peers(1); return m.Kind != answers || m.Verb != api.QPeers },
			func(m *api.Query) bool {
				m.Token = ""
				return m.Kind == asks && (m.Verb == api.QPut || m.Verb == api.QAnnounce)
			},
		} {
			x := m
			if must := f(&x); must && Valid(x) != !must {
				t.Error(i, k)
			}
		}
	}
	deep := messages()[8]
	deep.Plain = strings.Repeat("l", 11) + strings.Repeat("e", 11)
	if Valid(deep) {
		t.Error("a value that no message can tell")
	}
	long := strings.Repeat("x", api.MaxText+1)
	if _, e := Parse(long, 0); e != api.ErrLong {
		t.Error(e)
	}
	if _, _, _, e := Look(long); e != api.ErrLong {
		t.Error(e)
	}
	for _, verb := range []int{0, 8, -1} {
		if _, e := Parse("x", verb); e != api.ErrRange {
			t.Error(e)
		}
	}
	if _, e := Cut(messages()[0], -1); e != api.ErrRange {
		t.Error(e)
	}
}

func TestP152Back(t *testing.T) {
	for i, m := range messages() {
		s, e := Format(m)
		x, f := Parse(s, verbOf(m))
		if !Same(x, m) || e != api.OK || f != api.OK || !Valid(m) {
			t.Error(i, s, e, f)
		}
		if n, e := Size(m); n != len(s) || e != api.OK {
			t.Error(i, n, e)
		}
		for k, other := range []string{s + "e", s[1:], "d1:0le" + s[1:], "i1e", "de", strings.Replace(s, "2:id", "2:ie", 1), strings.Replace(s, "1:y1:", "1:x1:", 1), strings.Replace(s, "1:y1:", "1:y1:z1:z1:", 1)} {
			if other == s {
				continue
			}
			if x, e := Parse(other, verbOf(m)); e != api.ErrSyntax || !Same(x, api.Query{}) {
				t.Error(i, k, other, e)
			}
		}
	}
	if s, _ := Format(messages()[0]); s != "d1:ad2:id20:"+id("x")+"e1:q4:ping1:t2:aa1:y1:qe" {
		t.Error(s)
	}
	if s, _ := Format(messages()[4]); s != "d1:ad2:id20:"+id("x")+"12:implied_porti1e9:info_hash20:"+id("t")+"4:porti0e5:token20:"+id("k")+"e1:q13:announce_peer2:roi1e1:t2:aa1:y1:qe" {
		t.Error(s)
	}
	if s, _ := Format(messages()[26]); s != "d1:eli203e3:bade1:t1:z1:y1:ee" {
		t.Error(s)
	}
	for _, s := range []string{
		"d1:ad2:id20:" + id("x") + "e1:q4:ping2:roi0e1:t2:aa1:y1:qe", "d1:ad2:id20:" + id("x") + "1:zi1ee1:q4:ping1:t2:aa1:y1:qe", "d1:ad2:id20:" + id("x") + "e1:q4:pong1:t2:aa1:y1:qe",
		"d1:rd2:id20:" + id("x") + "5:nodes0:e1:t2:aa1:y1:re", "d1:eli203ee1:t1:z1:y1:ee", "d1:el3:bad3:bade1:t1:z1:y1:ee", "d1:ale1:q4:ping1:t2:aa1:y1:qe",
		"d1:ad2:id20:" + id("x") + "e1:ei1e1:q4:ping1:t2:aa1:y1:qe",
	} {
		if _, e := Parse(s, api.QFind); e != api.ErrSyntax {
			t.Error(s, e)
		}
	}
}

func TestP153Look(t *testing.T) {
	for i, m := range messages() {
		s, _ := Format(m)
		kind, number, verb, e := Look(s)
		want := m.Verb
		if m.Kind != asks {
			want = 0
		}
		if kind != m.Kind || number != m.Number || verb != want || e != api.OK {
			t.Error(i, kind, number, verb, e)
		}
	}
	for s, want := range map[string]api.Errno{
		"d1:q4:pong1:t1:a1:y1:qe": api.OK, "d1:q0:1:t1:a1:y1:qe": api.OK, "d1:ai5e1:q4:ping1:t1:a1:y1:qe": api.OK, "d1:qi1e1:t1:a1:y1:qe": api.ErrSyntax, "d1:t1:a1:y1:qe": api.ErrSyntax,
		"d1:t1:a1:y1:re": api.OK, "d1:t0:1:y1:re": api.ErrSyntax, "d1:t9:1234567891:y1:re": api.ErrSyntax, "d1:t1:a1:y1:xe": api.ErrSyntax, "d1:t1:a1:y2:qre": api.ErrSyntax, "d1:t1:a1:y0:e": api.ErrSyntax,
		"d1:ti1e1:y1:re": api.ErrSyntax, "le": api.ErrSyntax, "": api.ErrSyntax, "d1:t1:ae": api.ErrSyntax,
	} {
		kind, number, verb, e := Look(s)
		if e != want || verb > 1 || e != api.OK && (kind != 0 || number != "") {
			t.Error(s, kind, number, verb, e)
		}
	}
}

func TestP154Valid(t *testing.T) {
	for i, m := range messages() {
		a, e := Answer(m, id("z"))
		f, g := Failed(m, 301, "no")
		if m.Kind != asks {
			if e != api.ErrKind || g != api.ErrKind {
				t.Error(i, e, g)
			}
			continue
		}
		if !Same(a, api.Query{Kind: answers, Verb: m.Verb, Number: m.Number, ID: id("z")}) || e != api.OK || !Valid(a) {
			t.Error("Answer", i, e)
		}
		if !Same(f, api.Query{Kind: fails, Number: m.Number, Code: 301, Text: "no"}) || g != api.OK || !Valid(f) {
			t.Error("Failed", i, g)
		}
		if _, e := Answer(m, "x"); e != api.ErrInvalid {
			t.Error(e)
		}
		if _, e := Failed(m, 299, "no"); e != api.ErrInvalid {
			t.Error(e)
		}
		if _, e := Failed(m, 201, strings.Repeat("x", 101)); e != api.ErrInvalid {
			t.Error(e)
		}
	}
}

func TestP155Cut(t *testing.T) {
	for i, m := range messages() {
		whole, _ := Size(m)
		least := m
		least.Peers, least.Nodes, least.Samples = nil, nil, nil
		bare, _ := Size(least)
		for n := 0; n <= whole+1; n += 7 {
			x, e := Cut(m, n)
			if n < bare {
				if e != api.ErrLimit {
					t.Error(i, n, e)
				}
				continue
			}
			size, f := Size(x)
			if e != api.OK || f != api.OK || size > n || !Valid(x) {
				t.Fatal(i, n, size, e, f)
			}
			back := x
			back.Peers, back.Nodes, back.Samples = m.Peers[:len(x.Peers)], m.Nodes[:len(x.Nodes)], m.Samples[:len(x.Samples)]
			if !Same(back, x) {
				t.Error("beginnings", i, n)
			}
			// One more would be too much, and what goes goes in order.
			more := x
			switch {
			case len(x.Samples) < len(m.Samples):
				more.Samples = m.Samples[:len(x.Samples)+1]
			case len(x.Nodes) < len(m.Nodes):
				more.Nodes = m.Nodes[:len(x.Nodes)+1]
			case len(x.Peers) < len(m.Peers):
				more.Peers = m.Peers[:len(x.Peers)+1]
			default:
				continue
			}
			if s, _ := Size(more); s <= n || len(x.Nodes) < len(m.Nodes) && len(x.Peers) > 0 || len(x.Samples) < len(m.Samples) && len(x.Nodes) > 0 {
				t.Error("too much was cut", i, n)
			}
		}
	}
}

func TestP156One(t *testing.T) {
	met := map[string]int{}
	for i, m := range messages() {
		s, _ := Format(m)
		key := s + string(rune(m.Verb))
		if old, ok := met[key]; ok {
			t.Error("one text", i, old)
		}
		met[key] = i
		for j, x := range messages() {
			if Same(m, x) != (i == j) {
				t.Error("Same", i, j)
			}
		}
	}
	a, b := messages()[12], messages()[12]
	a.Nodes = []api.Node{}
	if !Same(a, b) {
		t.Error("nil and empty lists")
	}
	v, _ := benc.Parse("le")
	if !benc.Valid(v) {
		t.Error("benc")
	}
}
