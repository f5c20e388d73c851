package look

import (
	"slices"
	"strconv"
	"strings"
	"testing"

	"covey/addr"
	"covey/api"
	"covey/hash"
	"covey/node"
	"covey/sign"
)

func id(k int) string { return hash.Old("id" + strconv.Itoa(k)) }

func at(n int) api.Addr {
	a, _ := addr.V4(8, 8, n>>8, n&255, 6881)
	return a
}

func world(n int) []api.Node {
	var l []api.Node
	for k := range n {
		l = append(l, api.Node{ID: id(k), Addr: at(k)})
	}
	return l
}

func made(k, alpha int, secure bool, begin ...api.Node) *Lookup {
	l, e := New(id(-1), id(-2), 4, k, alpha, secure, begin)
	if e != api.OK {
		panic(e)
	}
	return l
}

func tells(n api.Node, nodes ...api.Node) api.Query {
	return api.Query{Kind: 2, Verb: api.QFind, Number: "a", ID: n.ID, Nodes: nodes}
}

func next(t *testing.T, l *Lookup, want api.Node) {
	t.Helper()
	if n, e := l.Next(); n != want || e != api.OK {
		t.Error("Next", n.Addr, want.Addr, e)
	}
}

func TestP171Errors(t *testing.T) {
	var none *Lookup
	w := world(300)
	if _, e := none.Next(); e != api.ErrInvalid || none.Over() || none.Asked() != 0 || none.Nodes() != nil || none.Found() != nil || none.Text() != "" || none.Answer(w[0], tells(w[0])) != api.ErrInvalid || none.Fail(w[0]) != api.ErrInvalid {
		t.Error(e)
	}
	if _, _, e := none.Item(); e != api.ErrInvalid {
		t.Error(e)
	}
	if _, e := Rounds(none, nil, nil); e != api.ErrInvalid {
		t.Error(e)
	}
	for k, c := range []struct {
		target, own      string
		family, k, alpha int
		begin            []api.Node
		e                api.Errno
	}{
		{"x", id(1), 5, 1, 1, nil, api.ErrInvalid}, {id(1), "x", 5, 1, 1, nil, api.ErrInvalid}, {id(1), id(2), 5, 1, 1, []api.Node{{}}, api.ErrInvalid}, {id(1), id(2), 5, 1, 1, nil, api.ErrRange},
		{id(1), id(2), 4, 0, 1, nil, api.ErrRange}, {id(1), id(2), 4, 17, 1, nil, api.ErrRange}, {id(1), id(2), 4, 1, 0, nil, api.ErrRange}, {id(1), id(2), 4, 1, 9, w[:201], api.ErrRange},
		{id(1), id(2), 4, 16, 8, w[:201], api.ErrSize}, {id(1), id(2), 4, 16, 8, w[:200], api.OK},
	} {
		if _, e := New(c.target, c.own, c.family, c.k, c.alpha, false, c.begin); e != c.e {
			t.Error(k, e)
		}
	}
	l := made(8, 3, false, w[0])
	if l.Answer(w[0], tells(w[0])) != api.ErrNone || l.Fail(w[0]) != api.ErrNone || l.Fail(api.Node{}) != api.ErrInvalid || l.Answer(w[0], api.Query{}) != api.ErrInvalid {
		t.Error("not asked")
	}
	next(t, l, w[0])
	q := api.Query{Kind: 1, Verb: api.QPing, Number: "a", ID: w[0].ID}
	if e := l.Answer(w[0], q); e != api.ErrKind {
		t.Error(e)
	}
	if l.Fail(w[0]) != api.OK || l.Answer(w[0], tells(w[0])) != api.ErrNone || !l.Over() || len(l.Found()) != 0 {
		t.Error("one node that fails")
	}
	if _, e := Rounds(l, w, nil); e != api.ErrSize {
		t.Error(e)
	}
	if _, _, e := l.Item(); e != api.ErrNone {
		t.Error(e)
	}
}

func TestP172Once(t *testing.T) {
	w := world(40)
	l := made(4, 3, false, w[:5]...)
	met := map[api.Node]bool{}
	for i := range 200 {
		n, e := l.Next()
		if e != api.OK {
			if s := l.Nodes(); l.Over() {
				break
			} else {
				for _, x := range s {
					if x.State == asked {
						l.Fail(x.Node)
						break
					}
				}
			}
			continue
		}
		if met[n] {
			t.Error("twice")
		}
		met[n] = true
		if i%3 > 0 {
			l.Answer(n, tells(n, w[i%40], w[(i*7)%40], w[(i*i)%40]))
		}
	}
	if !l.Over() || l.Asked() != len(met) {
		t.Error("over", l.Asked(), len(met))
	}
}

func TestTaken(t *testing.T) {
	w := world(10)
	six := api.Node{ID: id(90), Addr: api.Addr{Family: 6, IP: strings.Repeat("\x20", 16), Port: 1}}
	selfAddr, _ := addr.V4(127, 0, 0, 1, 1)
	noAddr, _ := addr.V4(0, 0, 0, 0, 1)
	nearAddr, _ := addr.V4(10, 0, 0, 1, 1)
	self, none, near, mine := api.Node{ID: id(91), Addr: selfAddr}, api.Node{ID: id(92), Addr: noAddr}, api.Node{ID: id(93), Addr: nearAddr}, api.Node{ID: id(-2), Addr: at(94)}
	l := made(16, 1, false, w[0], w[0], six, self, none, mine)
	if s := l.Nodes(); len(s) != 2 {
		t.Error("to begin with", s)
	}
	l = made(16, 1, false, w[0])
	next(t, l, w[0])
	l.Answer(w[0], tells(w[0], self, none, near, mine, w[0], w[1], api.Node{ID: w[1].ID, Addr: at(50)}, six))
	if s := l.Nodes(); len(s) != 4 {
		t.Error("told", s)
	}
	// Another identifier: left out, and its answer counts for nothing.
	n, _ := l.Next()
	m := tells(w[9], w[5])
	if l.Answer(n, m); len(l.Nodes()) != 4 || l.Nodes()[slices.IndexFunc(l.Nodes(), func(s api.Searched) bool { return s.Node == n })].State != leftOut {
		t.Error("left out")
	}
	// Secure lookups.
	var good []api.Node
	for k := range 4 {
		i, _ := addr.Node(at(k), "s", k)
		good = append(good, api.Node{ID: i, Addr: at(k)})
	}
	other, _ := addr.Node(at(1), "t", 5)
	port := at(1)
	port.Port = 9
	s := made(8, 3, true, good[0], good[1], api.Node{ID: other, Addr: port}, w[5], near)
	if x := s.Nodes(); len(x) != 3 {
		t.Error("secure", x)
	}
	// At most 200 are known: the farthest that was not asked goes.
	var far []api.Node
	for k := range 200 {
		far = append(far, api.Node{ID: id(1000 + k), Addr: at(1000 + k)})
	}
	far, _ = node.Sorted(id(-1), far)
	f := made(8, 3, false, far...)
	for range 3 {
		f.Next()
	}
	closest := api.Node{ID: id(-1), Addr: at(3)}
	flip, _ := node.Flip(id(-1), 0)
	farthest := api.Node{ID: flip, Addr: at(4)}
	for k := range 159 {
		flip, _ = node.Flip(flip, k+1)
	}
	farthest.ID = flip
	f.Answer(far[0], tells(far[0], farthest, closest))
	got := f.Nodes()
	if len(got) != 200 || got[0].Node != closest || got[199].Node != far[198] {
		t.Error("room", len(got))
	}
}

// run drives a lookup in a world: who answers tells what each tells.
func run(t *testing.T, l *Lookup, w []api.Node, each [][]int, dead func(i int) bool) {
	t.Helper()
	steps := 0
	for !l.Over() {
		var under []api.Node
		for {
			n, e := l.Next()
			if e != api.OK {
				break
			}
			under = append(under, n)
		}
		if len(under) == 0 {
			t.Fatal("neither over nor anything to ask")
		}
		for _, n := range under {
			if steps++; l.Over() {
				t.Fatal("over while one is asked")
			}
			i := slices.Index(w, n)
			if dead(i) {
				l.Fail(n)
				continue
			}
			var told []api.Node
			for _, k := range each[i] {
				told = append(told, w[k])
			}
			l.Answer(n, tells(n, told...))
		}
	}
	if steps > len(w) {
		t.Error("ends", steps)
	}
}

func TestP173Nearest(t *testing.T) {
	for seed := range 10 {
		w := world(60)
		each := make([][]int, 60)
		for i := range each {
			for k := range 10 {
				x, _ := hash.Draw("told"+strconv.Itoa(seed), 100*i+k, 60)
				each[i] = append(each[i], x)
			}
		}
		l := made(6, 3, false, w[seed])
		dead := func(i int) bool { return i%4 == 0 }
		run(t, l, w, each, dead)
		found := l.Found()
		if len(found) == 0 {
			continue
		}
		last := found[len(found)-1]
		for _, s := range l.Nodes() {
			c, _ := node.Compare(id(-1), s.Node, last)
			if len(found) == 6 && c < 0 && s.State != answered && s.State != failed {
				t.Error("a nearer one was not asked", s.State)
			}
		}
	}
}

func TestP174World(t *testing.T) {
	for seed := range 8 {
		n := 10 + 7*seed
		w := world(n)
		dead := func(i int) bool { return i%5 == 3 && i != 0 }
		target := id(-1)
		order, _ := node.Sorted(target, w)
		var nearest []int
		var live []api.Node
		for _, x := range order {
			i := slices.Index(w, x)
			nearest = append(nearest, i)
			if !dead(i) {
				live = append(live, x)
			}
		}
		each := make([][]int, n)
		for i := range each {
			each[i] = nearest[:min(16, n)] // K or more nearest ones
		}
		l := made(3, 2, false, w[0])
		run(t, l, w, each, dead)
		if !slices.Equal(l.Found(), live[:3]) {
			t.Error("Found", seed)
		}
		r := made(3, 2, false, w[0])
		var alive []api.Node
		var its [][]int
		for i, x := range w {
			if !dead(i) {
				alive = append(alive, x)
			}
		}
		for range alive {
			var l []int
			for _, x := range live[:3] {
				l = append(l, slices.Index(alive, x))
			}
			its = append(its, append(l, -1, 1000))
		}
		count, e := Rounds(r, alive, its)
		if !slices.Equal(r.Found(), live[:3]) || count != r.Asked() || e != api.OK || !r.Over() {
			t.Error("Rounds", seed, e)
		}
	}
}

func TestP175Ends(t *testing.T) {
	w := world(20)
	l := made(2, 1, false, w...)
	order, _ := node.Sorted(id(-1), w)
	next(t, l, order[0])
	if _, e := l.Next(); e != api.ErrNone || l.Over() {
		t.Error("Alpha", e)
	}
	l.Answer(order[0], tells(order[0]))
	next(t, l, order[1])
	l.Fail(order[1])
	next(t, l, order[2])
	if l.Over() {
		t.Error("over while one is asked")
	}
	l.Answer(order[2], tells(order[2]))
	if _, e := l.Next(); e != api.ErrNone || !l.Over() || l.Asked() != 3 || !slices.Equal(l.Found(), []api.Node{order[0], order[2]}) {
		t.Error("over", e)
	}
	b, e := Bootstrap(id(3), 4, w[:4])
	if e != api.OK || len(b.Nodes()) != 3 || b.k != 8 || b.alpha != 3 {
		t.Error(e)
	}
	if !made(8, 3, false).Over() {
		t.Error("nothing to begin with")
	}
}

func TestP176Item(t *testing.T) {
	w := world(4)
	one, _ := sign.Make(7, "s", 1, "le")
	two, _ := sign.Make(7, "s", 2, "le")
	forged, other := two, two
	forged.Number = 9
	other, _ = sign.Make(8, "s", 9, "le")
	place, _ := sign.Place(one.Key, one.Salt)
	start := func(target string) *Lookup {
		l, _ := New(target, id(-2), 4, 8, 4, false, w)
		for range w {
			l.Next()
		}
		return l
	}
	got := func(n api.Node, f func(m *api.Query)) api.Query {
		m := api.Query{Kind: 2, Verb: api.QGet, Number: "a", ID: n.ID, Token: "tok" + n.ID[:3]}
		f(&m)
		return m
	}
	l := start(place)
	for i, x := range []api.Item{one, forged, two, other} {
		if e := l.Answer(w[i], got(w[i], func(m *api.Query) { m.Item = x })); e != api.OK {
			t.Error(e)
		}
	}
	if i, plain, e := l.Item(); i != two || plain != "" || e != api.OK {
		t.Error(i.Number, e)
	}
	for i, n := range l.Found() {
		if l.Tokens()[i] != "tok"+n.ID[:3] {
			t.Error("Tokens")
		}
	}
	l = start(hash.Old("i5e"))
	for i, s := range []string{"i4e", "i5e", "i6e"} {
		l.Answer(w[i], got(w[i], func(m *api.Query) { m.Plain, m.HasPlain = s, true }))
	}
	if i, plain, e := l.Item(); i != (api.Item{}) || plain != "i5e" || e != api.OK {
		t.Error(plain, e)
	}
	l = start(id(5))
	l.Answer(w[0], api.Query{Kind: 2, Verb: api.QPeers, Number: "a", ID: w[0].ID, Peers: []api.Addr{at(9), at(3), at(9)}})
	l.Answer(w[1], api.Query{Kind: 2, Verb: api.QPeers, Number: "a", ID: w[1].ID, Peers: []api.Addr{at(4), at(3)}})
	if !slices.Equal(l.Peers(), []api.Addr{at(3), at(4), at(9)}) {
		t.Error(l.Peers())
	}
	before := l.Text()
	l.Answer(w[2], api.Query{Kind: 2, Verb: api.QSample, Number: "a", ID: w[2].ID, Samples: []string{id(9), id(8), id(9)}})
	want := []string{id(8), id(9)}
	slices.Sort(want)
	if !slices.Equal(l.Samples(), want) || l.Text() == before || !slices.Equal(l.Tokens(), []string{"", "", ""}) {
		t.Error(l.Samples())
	}
}
