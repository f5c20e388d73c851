package cloud

import (
	"slices"
	"strconv"
	"strings"
	"testing"

	"covey/addr"
	"covey/api"
	"covey/hash"
	"covey/node"
	"covey/sign"
)

func at(family, k int) api.Addr {
	if family == 6 {
		return api.Addr{Family: 6, IP: strings.Repeat("\x20", 15) + string([]byte{byte(k)}), Port: 6881}
	}
	a, _ := addr.V4(8, 8, 8, k, 6881)
	return a
}

func lived(family int, seed string, kinds ...int) []api.Lived {
	var l []api.Lived
	for k, kind := range kinds {
		l = append(l, api.Lived{Node: api.Node{ID: hash.Old(seed + strconv.Itoa(k)), Addr: at(family, k)}, Kind: kind})
	}
	return l
}

func honest(n int) []int { return slices.Repeat([]int{api.CHonest}, n) }

func joined(t *testing.T, seed string, l []api.Lived) *Cloud {
	t.Helper()
	c, e := New(seed, l)
	if e != api.OK {
		t.Fatal(e)
	}
	if e := c.Join(); e != api.OK {
		t.Fatal(e)
	}
	return c
}

func item(t *testing.T, number int) api.Item {
	i, e := sign.Make(5, "salt", number, "le")
	if e != api.OK {
		t.Fatal(e)
	}
	return i
}

func TestP181Errors(t *testing.T) {
	var none *Cloud
	if _, e := none.Find(0, ""); e != api.ErrInvalid || none.Join() != api.ErrInvalid || none.Kill(0) != api.ErrInvalid || none.Now() != 0 || none.Messages() != 0 {
		t.Error(e)
	}
	good := lived(4, "a", honest(3)...)
	twice, same, mixed, kind := slices.Clone(good), slices.Clone(good), slices.Clone(good), slices.Clone(good)
	twice[1].Node.ID = twice[0].Node.ID
	same[1].Node.Addr = same[0].Node.Addr
	mixed[1].Node.Addr = at(6, 1)
	kind[2].Kind = 6
	for k, c := range []struct {
		seed string
		l    []api.Lived
		e    api.Errno
	}{
		{strings.Repeat("x", 91), nil, api.ErrInvalid}, {"", make([]api.Lived, 61), api.ErrInvalid}, {"", nil, api.ErrSize}, {"", lived(4, "a", honest(61)...), api.ErrSize},
		{"", twice, api.ErrDuplicate}, {"", same, api.ErrDuplicate}, {"", mixed, api.ErrKind}, {"", kind, api.ErrKind}, {strings.Repeat("x", 90), lived(4, "a", honest(60)...), api.OK},
	} {
		if _, e := New(c.seed, c.l); e != c.e {
			t.Error(k, e)
		}
	}
	c, _ := New("s", lived(4, "a", api.CHonest, api.CReadOnly, api.CDead, api.CLiar, api.CMirror))
	id := hash.Old("x")
	unsigned := item(t, 1)
	unsigned.Sign = ""
	check := func(from int, want api.Errno) {
		t.Helper()
		_, e1 := c.Find(from, id)
		_, e2 := c.Announce(from, id, 1)
		_, e3 := c.Peers(from, id)
		_, _, e4 := c.PutPlain(from, "le")
		_, _, e5 := c.PutItem(from, item(t, 1))
		_, _, e6 := c.Get(from, id)
		_, e7 := c.Samples(from)
		for i, e := range []api.Errno{e1, e2, e3, e4, e5, e6, e7} {
			if e != want && !(want == api.OK && e == api.ErrNone) {
				t.Error(from, i, e)
			}
		}
	}
	check(0, api.ErrState)
	check(3, api.ErrState)
	check(-1, api.ErrRange)
	check(5, api.ErrRange)
	if c.Now() != 1 {
		t.Error(c.Now())
	}
	if _, _, e := c.PutPlain(0, strings.Repeat("x", 1001)); e != api.ErrLong {
		t.Error(e)
	}
	if _, _, e := c.PutPlain(0, "x"); e != api.ErrSyntax {
		t.Error(e)
	}
	if _, _, e := c.PutItem(0, unsigned); e != api.ErrSign {
		t.Error(e)
	}
	if _, _, e := c.PutItem(-1, api.Item{}); e != api.ErrInvalid {
		t.Error(e)
	}
	for _, port := range []int{0, -1, 65536} {
		if _, e := c.Announce(0, id, port); e != api.ErrRange {
			t.Error(e)
		}
	}
	if c.Join() != api.OK || c.Join() != api.ErrState {
		t.Error("Join")
	}
	check(0, api.OK)
	check(1, api.OK)
	for _, n := range []int{2, 3, 4} {
		check(n, api.ErrDown)
		if _, e := c.Known(n); e != api.ErrKind {
			t.Error(e)
		}
	}
	if _, e := c.Find(9, "x"); e != api.ErrInvalid {
		t.Error(e)
	}
	if _, e := c.Holds("x"); e != api.ErrInvalid {
		t.Error(e)
	}
	if c.Kill(2) != api.ErrState || c.Kill(9) != api.ErrRange || c.Kill(0) != api.OK || c.Kill(0) != api.ErrState {
		t.Error("Kill")
	}
	check(0, api.ErrDown)
	if l, e := c.Known(0); len(l) != 0 || e != api.OK {
		t.Error("a killed node keeps its table", e)
	}
}

func TestP182Found(t *testing.T) {
	for n := 2; n <= 9; n++ {
		for _, family := range []int{4, 6} {
			c := joined(t, "found", lived(family, "f"+strconv.Itoa(n), honest(n)...))
			from := n / 2
			plain, kept, e := c.PutPlain(from, "i5e")
			if kept != n-1 || plain != hash.Old("i5e") || e != api.OK {
				t.Error("PutPlain", n, kept, e)
			}
			i := item(t, 7)
			place, kept, e := c.PutItem(from, i)
			if kept != n-1 || e != api.OK {
				t.Error("PutItem", n, kept, e)
			}
			name := hash.Old("content")
			kept, e = c.Announce(from, name, 99)
			if kept != n-1 || e != api.OK {
				t.Error("Announce", n, kept, e)
			}
			want := at(family, from)
			want.Port = 99
			for k := range n {
				if n == 2 && k != from {
					continue
				}
				if _, s, e := c.Get(k, plain); s != "i5e" || e != api.OK {
					t.Error("Get", n, k, e)
				}
				if x, s, e := c.Get(k, place); x != i || s != "" || e != api.OK {
					t.Error("Get", n, k, e)
				}
				if l, e := c.Peers(k, name); !slices.Equal(l, []api.Addr{want}) || e != api.OK {
					t.Error("Peers", n, k, l, e)
				}
				if l, e := c.Samples(k); !slices.Equal(l, []string{name}) || e != api.OK {
					t.Error("Samples", n, k, l, e)
				}
			}
			var others []int
			for k := range n {
				if k != from {
					others = append(others, k)
				}
			}
			for _, p := range []string{plain, place, name} {
				if l, e := c.Holds(p); !slices.Equal(l, others) || e != api.OK {
					t.Error("Holds", n, l, e)
				}
			}
		}
	}
}

func TestP183Nearest(t *testing.T) {
	for n := 2; n <= 9; n++ {
		l := lived(4, "n"+strconv.Itoa(n), honest(n)...)
		c := joined(t, "near", l)
		for k := range n {
			target := hash.Old("t" + strconv.Itoa(k))
			var want []api.Node
			for i, x := range l {
				if i != k {
					want = append(want, x.Node)
				}
			}
			want, _ = node.Sorted(target, want)
			if got, e := c.Find(k, target); !slices.Equal(got, want) || e != api.OK {
				t.Error("Find", n, k, len(got), e)
			}
			if got, _ := c.Known(k); len(got) != n-1 {
				t.Error("Known", n, k, len(got))
			}
		}
		if c.Now() != c.Messages()+1 {
			t.Error("a query is a tick", c.Now(), c.Messages())
		}
	}
}

func kinds(seed string, n int) []int {
	var l []int
	for k := range n {
		d, _ := hash.Draw(seed, k, 9)
		l = append(l, []int{api.CHonest, api.CHonest, api.CHonest, api.CHonest, api.CReadOnly, api.CDead, api.CLiar, api.CMirror, api.CHonest}[d])
	}
	l[0] = api.CHonest
	return l
}

func TestP184Proved(t *testing.T) {
	for s := range 12 {
		seed := "lies" + strconv.Itoa(s)
		l := lived(4, seed, kinds(seed, 15)...)
		c := joined(t, seed, l)
		i := item(t, 3)
		place, _, _ := c.PutItem(0, i)
		plain, _, _ := c.PutPlain(0, "i9e")
		for k, x := range l {
			if x.Kind != api.CHonest && x.Kind != api.CReadOnly {
				continue
			}
			got, s, e := c.Get(k, place)
			if e == api.OK && (got != i || s != "" || !sign.Valid(got)) {
				t.Error("proved", seed, k)
			}
			got, s, e = c.Get(k, plain)
			if e == api.OK && (s != "i9e" || got != (api.Item{})) {
				t.Error("proved", seed, k)
			}
			if e != api.OK && (e != api.ErrNone || s != "") {
				t.Error(e)
			}
		}
	}
}

func TestP185Lies(t *testing.T) {
	for s := range 12 {
		seed := "dead" + strconv.Itoa(s)
		l := lived(4, seed, kinds(seed, 20)...)
		c := joined(t, seed, l)
		dead := map[int]bool{}
		for k := range l {
			if s%2 == 0 && k%6 == 5 && c.Kill(k) == api.OK {
				dead[k] = true
			}
		}
		for k, x := range l {
			if x.Kind != api.CHonest && x.Kind != api.CReadOnly || dead[k] {
				continue
			}
			got, e := c.Find(k, hash.Old("t"+strconv.Itoa(k)))
			if e != api.OK {
				t.Error(e)
			}
			for _, n := range got {
				at := slices.IndexFunc(l, func(y api.Lived) bool { return y.Node == n })
				if at < 0 || at == k || l[at].Kind == api.CDead || l[at].Kind == api.CReadOnly || dead[at] {
					t.Error("found", seed, k, at)
				}
			}
		}
	}
	// What liars and mirrors tell.
	c, _ := New("s", lived(4, "a", api.CLiar, api.CMirror))
	own := c.nodes[0].lived.Node
	target := hash.Old("t")
	l := c.nodes[0].kind.(liar)
	_ = l
	q := "d1:ad2:id20:" + target + "6:target20:" + target + "e1:q9:find_node1:t1:a1:y1:qe"
	out, ok := c.nodes[0].kind.answer(1, at(4, 9), q)
	if !ok || !strings.Contains(out, "nodes208:") {
		t.Errorf("%q", out)
	}
	common, _ := node.Common(target, own.ID)
	body := out[strings.Index(out, "nodes208:")+9:]
	nodes, _ := node.Unpack(body[:208], 4)
	for i, n := range nodes {
		want, _ := node.In(target, common+8, own.ID, i+1)
		a, _ := addr.V4(203, 0, 113, i+1, 1001+i)
		if n.ID != want || n.Addr != a {
			t.Error(i, n)
		}
	}
	if out, ok := c.nodes[1].kind.answer(1, at(4, 9), q); !ok || !strings.Contains(out, "nodes26:"+c.nodes[1].lived.Node.ID) {
		t.Errorf("%q", out)
	}
	if a := nowhere(6, 3); a.Port != 1003 || !strings.HasPrefix(a.IP, "\x20\x01\x0d\xb8\x00") || a.IP[15] != 3 {
		t.Error(a)
	}
}

func TestP186Same(t *testing.T) {
	run := func() (string, int) {
		c := joined(t, "same", lived(4, "same", kinds("same", 25)...))
		c.PutPlain(0, "le")
		c.Announce(0, hash.Old("x"), 5)
		out := ""
		for k := range 25 {
			l, _ := c.Known(k)
			for _, n := range l {
				out += n.ID
			}
		}
		h, _ := c.Holds(hash.Old("x"))
		return hash.Hex(hash.Sum(out)) + strconv.Itoa(len(h)), c.Messages()
	}
	a, n := run()
	b, m := run()
	if a != b || n != m || n == 0 {
		t.Error(a, b, n, m)
	}
	two := joined(t, "s", lived(4, "two", honest(2)...))
	// The first has nothing to begin with; the second asks the first; then each asks the other.
	if two.Messages() != 3 || two.Now() != 4 {
		t.Error(two.Messages())
	}
}
