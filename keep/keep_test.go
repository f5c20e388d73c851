package keep

import (
	"slices"
	"strconv"
	"strings"
	"testing"

	"covey/addr"
	"covey/api"
	"covey/hash"
	"covey/node"
	"covey/query"
	"covey/sign"
)

func at(n int) api.Addr {
	a, _ := addr.V4(10, 0, n>>8, n&255, 6881)
	return a
}

func at6(n int) api.Addr {
	return api.Addr{Family: 6, IP: strings.Repeat("\x20", 15) + string([]byte{byte(n)}), Port: 6881}
}

func name(k int) string { return hash.Old(strconv.Itoa(k)) }

func made(names, peers, items int) *Store {
	s, e := New("seed", names, peers, items)
	if e != api.OK {
		panic(e)
	}
	return s
}

func item(secret, number int, value string) api.Item {
	i, e := sign.Make(secret, "salt", number, value)
	if e != api.OK {
		panic(e)
	}
	return i
}

func TestP161Errors(t *testing.T) {
	var none *Store
	var nobody *Node
	if _, e := none.Peers(0, name(1), 4, 1); e != api.ErrInvalid || none.Announce(0, name(1), at(1), true) != api.ErrInvalid || nobody.Table() != nil || nobody.Store() != nil || nobody.ID() != "" {
		t.Error(e)
	}
	if _, e := nobody.Answer(0, at(1), ""); e != api.ErrInvalid {
		t.Error(e)
	}
	long := strings.Repeat("x", 101)
	if _, e := New(long, 0, 0, 0); e != api.ErrInvalid {
		t.Error(e)
	}
	for _, c := range [][3]int{{0, 1, 1}, {1, 0, 1}, {1, 1, 0}, {1001, 1, 1}, {1, 1001, 1}, {1, 1, 1001}} {
		if _, e := New("", c[0], c[1], c[2]); e != api.ErrRange {
			t.Error(c, e)
		}
	}
	if _, e := NewNode("x", "", false); e != api.ErrInvalid {
		t.Error(e)
	}
	if _, e := NewNode(name(1), long, false); e != api.ErrInvalid {
		t.Error(e)
	}
	s := made(5, 5, 5)
	s.Announce(10, name(1), at(1), true)
	good := item(3, 1, "le")
	for _, now := range []int{-1, 9, api.MaxTime + 1} {
		_, e1 := s.Peers(now, name(1), 4, 1)
		_, _, e2 := s.Seeds(now, name(1))
		_, e3 := s.PutPlain(now, strings.Repeat("x", 1001))
		_, e4 := s.PutItem(now, good, -1)
		_, _, e5 := s.Get(now, name(1))
		_, e6 := s.Samples(now)
		_, e7 := s.Names(now)
		_, e8 := s.Places(now)
		_, _, _, e9 := s.Count(now)
		_, e10 := s.Until(now, name(1))
		for i, e := range []api.Errno{e1, e2, e3, e4, e5, e6, e7, e8, e9, e10, s.Announce(now, name(1), at(1), true)} {
			if e != api.ErrRange {
				t.Error(now, i, e)
			}
		}
	}
	if s.Announce(-1, "x", at(1), true) != api.ErrInvalid || s.Announce(-1, name(1), api.Addr{}, true) != api.ErrInvalid {
		t.Error("ErrInvalid first")
	}
	bad := good
	bad.Number = -1
	if _, e := s.PutItem(-1, bad, -1); e != api.ErrInvalid {
		t.Error(e)
	}
	for _, f := range []int{0, 5} {
		if _, e := s.Peers(10, name(1), f, 1); e != api.ErrRange {
			t.Error(e)
		}
	}
	if _, e := s.Peers(10, name(1), 4, -1); e != api.ErrRange {
		t.Error(e)
	}
	if _, e := s.PutPlain(10, strings.Repeat("x", 1001)); e != api.ErrLong {
		t.Error(e)
	}
	if _, e := s.PutPlain(10, "i01e"); e != api.ErrSyntax {
		t.Error(e)
	}
	if _, _, e := s.Get(20, name(7)); e != api.ErrNone {
		t.Error(e)
	}
	if _, e := s.Until(20, name(7)); e != api.ErrNone {
		t.Error(e)
	}
	if _, e := s.Names(10); e != api.OK {
		t.Error("the time of an error does not count", e)
	}
}

func TestP162Kept(t *testing.T) {
	s := made(10, 10, 10)
	place, e := s.PutPlain(5, "4:spam")
	if place != hash.Old("4:spam") || e != api.OK {
		t.Error(e)
	}
	if until, e := s.Until(6, place); until != 7200005 || e != api.OK {
		t.Error(until, e)
	}
	s.PutPlain(100, "4:spam")
	i, plain, e := s.Get(7200100, place)
	if plain != "4:spam" || i != (api.Item{}) || e != api.OK {
		t.Error(plain, e)
	}
	if _, _, e := s.Get(7200101, place); e != api.ErrNone {
		t.Error(e)
	}
	if l, _ := s.Places(7200101); len(l) != 0 {
		t.Error(l)
	}
	s = made(10, 10, 10)
	s.Announce(0, name(1), at(1), true)
	s.Announce(1, name(1), at(2), false)
	s.Announce(2, name(1), at6(1), false)
	s.Announce(3, name(1), at(1), false)
	if a, b, e := s.Seeds(4, name(1)); a != 0 || b != 3 || e != api.OK {
		t.Error(a, b, e)
	}
	l, e := s.Peers(4, name(1), 4, 10)
	want := []api.Addr{at(1), at(2)}
	slices.SortFunc(want, func(a, b api.Addr) int {
		x, _ := addr.Pack(a)
		y, _ := addr.Pack(b)
		return strings.Compare(hash.Old("seed:4:"+x), hash.Old("seed:4:"+y))
	})
	if !slices.Equal(l, want) || e != api.OK {
		t.Error(l, want, e)
	}
	if l, _ := s.Peers(4, name(1), 4, 1); !slices.Equal(l, want[:1]) {
		t.Error(l)
	}
	if l, _ := s.Peers(1800001, name(1), 4, 10); len(l) != 2 {
		t.Error(l)
	}
	if l, _ := s.Peers(1800002, name(1), 4, 10); !slices.Equal(l, []api.Addr{at(1)}) {
		t.Error(l)
	}
	if n, p, _, _ := s.Count(1800003); n != 1 || p != 1 {
		t.Error(n, p)
	}
	if l, _ := s.Names(1800004); len(l) != 0 {
		t.Error("a name without peers is gone")
	}
}

func TestP163Signed(t *testing.T) {
	s := made(10, 10, 10)
	one, two, other := item(9, 1, "le"), item(9, 2, "le"), item(9, 2, "de")
	place, _ := sign.Place(one.Key, "salt")
	unsigned := one
	unsigned.Sign = "x"
	for k, c := range []struct {
		now, expected int
		i             api.Item
		e             api.Errno
	}{
		{0, -1, unsigned, api.ErrSign}, {0, 0, unsigned, api.ErrSign}, {0, 0, one, api.ErrState}, {0, -1, one, api.OK}, {5, 2, two, api.ErrState}, {5, -1, unsigned, api.ErrSign},
		{10, 1, two, api.OK}, {20, -1, one, api.ErrOld}, {20, -1, other, api.ErrOld}, {30, -1, two, api.OK}, {30, 2, two, api.OK},
	} {
		p, e := s.PutItem(c.now, c.i, c.expected)
		if e != c.e || e == api.OK && p != place || e != api.OK && p != "" {
			t.Error(k, e)
		}
	}
	i, plain, e := s.Get(40, place)
	if i != two || plain != "" || e != api.OK || !sign.Valid(i) {
		t.Error(i, e)
	}
	if until, _ := s.Until(40, place); until != 7200030 {
		t.Error(until)
	}
	if _, e := s.PutItem(7200031, one, -1); e != api.OK {
		t.Error("what is too old does not count", e)
	}
}

func TestP164Room(t *testing.T) {
	s := made(3, 4, 3)
	for k := range 40 {
		s.Announce(k, name(k%7), at(k*k%23), k%2 == 0)
		s.PutPlain(k, "i"+strconv.Itoa(k*k%17)+"e")
		s.PutItem(k, item(k%5+1, k, "le"), -1)
		n, p, i, e := s.Count(k)
		l, _ := s.Names(k)
		for _, x := range l {
			a, b, _ := s.Seeds(k, x)
			if a+b > 4 || a+b == 0 {
				t.Error("peers", a, b)
			}
		}
		if n > 3 || p > 12 || i > 3 || e != api.OK || n != len(l) {
			t.Error(n, p, i)
		}
		if l, _ := s.Names(k); !slices.Contains(l, name(k%7)) {
			t.Error("what has just come stays")
		}
	}
	// Who goes: the oldest peer, then the lesser address; the name with the fewest peers, then the lesser name.
	s = made(2, 2, 2)
	s.Announce(0, name(1), at(5), true)
	s.Announce(0, name(1), at(4), true)
	s.Announce(0, name(1), at(6), true)
	if l, _ := s.Peers(0, name(1), 4, 9); len(l) != 2 || slices.Contains(l, at(4)) {
		t.Error(l)
	}
	s.Announce(1, name(1), at(5), true)
	s.Announce(1, name(1), at(7), true)
	if l, _ := s.Peers(1, name(1), 4, 9); len(l) != 2 || slices.Contains(l, at(6)) {
		t.Error(l)
	}
	s.Announce(1, name(2), at(1), true)
	s.Announce(1, name(3), at(1), true)
	if l, _ := s.Names(1); !slices.Contains(l, name(1)) || slices.Contains(l, name(2)) {
		t.Error("the fewest peers")
	}
	s.Announce(1, name(3), at(2), true)
	s.Announce(1, name(4), at(2), true)
	if l, _ := s.Names(1); slices.Contains(l, min(name(1), name(3))) || len(l) != 2 {
		t.Error("the least name")
	}
	a, _ := s.PutPlain(5, "i1e")
	b, _ := s.PutPlain(5, "i2e")
	s.PutPlain(6, "i3e")
	if l, _ := s.Places(6); slices.Contains(l, min(a, b)) || !slices.Contains(l, max(a, b)) || !slices.IsSorted(l) {
		t.Error("the least place")
	}
}

func TestSamples(t *testing.T) {
	s := made(100, 5, 5)
	var want []string
	now := 2*21600000 + 5
	for k := range 30 {
		s.Announce(now, name(k), at(k), false)
		want = append(want, name(k))
	}
	slices.SortFunc(want, func(a, b string) int { return strings.Compare(hash.Old("seed:2"+a), hash.Old("seed:2"+b)) })
	if l, e := s.Samples(now); !slices.Equal(l, want[:20]) || e != api.OK {
		t.Error(len(l), e)
	}
}

func nodeAt(t *testing.T) *Node {
	n, e := NewNode(strings.Repeat("\x00", 20), "seed", false)
	if e != api.OK {
		t.Fatal(e)
	}
	return n
}

// ask asks a node, and reads its answer.
func ask(t *testing.T, n *Node, now int, from api.Addr, m api.Query) api.Query {
	t.Helper()
	s, e := query.Format(m)
	if e != api.OK {
		t.Fatal("Format", e)
	}
	out, e := n.Answer(now, from, s)
	x, f := query.Parse(out, m.Verb)
	if e != api.OK || f != api.OK || x.Number != m.Number || !query.Valid(x) || x.Kind == 2 && x.ID != n.ID() {
		t.Error("Answer", out, e, f)
	}
	return x
}

func queryOf(verb int, target string) api.Query {
	return api.Query{Kind: 1, Verb: verb, Number: "aa", ID: name(500), Target: target}
}

func TestP165Tokens(t *testing.T) {
	n := nodeAt(t)
	from := at(77)
	x := ask(t, n, 1000, from, queryOf(api.QPeers, name(1)))
	if len(x.Token) != 8 || len(x.Peers) != 0 || len(x.Nodes) != 1 {
		t.Error(x)
	}
	announce := queryOf(api.QAnnounce, name(1))
	announce.Port, announce.Token = 99, x.Token
	own := announce
	own.Own = true
	put := queryOf(api.QPut, "")
	put.Token, put.Plain, put.HasPlain = x.Token, "i5e", true
	for _, now := range []int{1000, 599999, 600000} {
		for _, who := range []api.Addr{from, at(78)} {
			right := who == from && now < 600000
			for _, m := range []api.Query{announce, own, put} {
				x := ask(t, n, now, who, m)
				if right != (x.Kind == 2) || !right && (x.Code != 203 || x.Text != "bad token") {
					t.Error(now, right, x)
				}
			}
		}
	}
	if l, _ := n.Store().Peers(600000, name(1), 4, 9); len(l) != 2 || !slices.Contains(l, from) {
		t.Error(l)
	}
	if s, o, _ := n.Store().Seeds(600000, name(1)); s != 0 || o != 2 {
		t.Error(s, o)
	}
	if l, _ := n.Store().Places(600000); !slices.Equal(l, []string{hash.Old("i5e")}) {
		t.Error(l)
	}
	x = ask(t, n, 600001, from, queryOf(api.QGet, hash.Old("i5e")))
	if !x.HasPlain || x.Plain != "i5e" {
		t.Error(x)
	}
	token := x.Token
	one, two := item(4, 1, "le"), item(4, 2, "le")
	bad := two
	bad.Sign = ""
	for k, c := range []struct {
		i    api.Item
		old  int
		code int
		text string
	}{{two, 3, 301, "not that"}, {two, -1, 0, ""}, {one, -1, 302, "old"}, {bad, -1, 206, "bad sign"}, {two, 1, 301, "not that"}, {two, 2, 0, ""}} {
		m := queryOf(api.QPut, "")
		m.Token, m.Item, m.Old = token, c.i, c.old
		if x := ask(t, n, 600001, from, m); x.Code != c.code || x.Text != c.text {
			t.Error(k, x)
		}
	}
	place, _ := sign.Place(two.Key, two.Salt)
	if x := ask(t, n, 600001, from, queryOf(api.QGet, place)); x.Item != two || x.HasPlain {
		t.Error(x)
	}
	if x := ask(t, n, 600001, from, queryOf(api.QGet, name(3))); x.Item.Key != "" || x.HasPlain {
		t.Error(x)
	}
}

func TestP166Answers(t *testing.T) {
	n := nodeAt(t)
	ping := "d1:ad2:id20:" + name(500) + "e1:q4:ping1:t2:aa1:y1:qe"
	if s, e := n.Answer(0, at(1), ping); s != "d1:rd2:id20:"+n.ID()+"e1:t2:aa1:y1:re" || e != api.OK {
		t.Error(s, e)
	}
	if x, e := n.Table().Find(0, name(500), 4); x.Asked != 0 || x.Answered != -1 || x.Node.Addr != at(1) || e != api.OK {
		t.Error(x, e)
	}
	for s, want := range map[string]api.Errno{"": api.ErrSyntax, strings.Repeat("x", api.MaxText+1): api.ErrSyntax, "d1:rd2:id20:" + name(5) + "e1:t2:aa1:y1:re": api.ErrKind, "d1:q1:x1:t2:aa1:y1:qe": api.OK} {
		if out, e := n.Answer(1, at(1), s); e != want || e != api.OK && out != "" {
			t.Error(s[:min(20, len(s))], e)
		}
	}
	if s, _ := n.Answer(1, at(1), "d1:q1:x1:t2:aa1:y1:qe"); s != "d1:eli204e8:bad verbe1:t2:aa1:y1:ee" {
		t.Error(s)
	}
	other := "d1:ad2:id20:" + name(501) + "1:xi1ee1:q4:ping1:t2:aa1:y1:qe"
	if s, _ := n.Answer(1, at(2), other); s != "d1:eli203e9:bad querye1:t2:aa1:y1:ee" {
		t.Error(s)
	}
	if _, e := n.Table().Find(1, name(501), 4); e != api.ErrNone {
		t.Error("not seen", e)
	}
	m := queryOf(api.QPing, "")
	m.ID, m.ReadOnly = name(502), true
	ask(t, n, 1, at(3), m)
	if _, e := n.Table().Find(1, name(502), 4); e != api.ErrNone {
		t.Error("not seen", e)
	}
	silent, _ := NewNode(name(9), "s", true)
	if _, e := silent.Answer(0, at(1), ping); e != api.ErrRefused {
		t.Error(e)
	}
	if _, e := silent.Answer(0, at(1), "x"); e != api.ErrSyntax {
		t.Error(e)
	}
	if _, e := n.Answer(0, at(1), "x"); e != api.ErrRange {
		t.Error(e)
	}
	if _, e := n.Answer(0, api.Addr{}, "x"); e != api.ErrInvalid {
		t.Error(e)
	}
	for k := range 20 {
		m := queryOf(api.QPing, "")
		m.ID = name(k)
		ask(t, n, 2, at(k+10), m)
		m.ID = name(k + 100)
		ask(t, n, 2, at6(k), m)
	}
	for k := range 25 {
		n.Store().Announce(2, name(k), at(k), false)
	}
	for _, from := range []api.Addr{at(50), at6(50)} {
		x := ask(t, n, 21599000, from, queryOf(api.QFind, name(3)))
		l, _ := n.Table().Nearest(21599000, name(3), from.Family, 8)
		if !slices.Equal(x.Nodes, l) || len(l) != 8 {
			t.Error(x.Nodes)
		}
		for _, y := range x.Nodes {
			if y.Addr.Family != from.Family || !node.ValidNode(y) {
				t.Error(y)
			}
		}
	}
	n.Store().Announce(21599000, name(1), at(1), false)
	x := ask(t, n, 21599001, at(50), queryOf(api.QSample, name(3)))
	if x.Interval != 0 || x.Total != 1 || !slices.Equal(x.Samples, []string{name(1)}) {
		t.Error(x)
	}
	if x := ask(t, n, 21600000, at(50), queryOf(api.QSample, name(3))); x.Interval != 21600 {
		t.Error(x)
	}
}
