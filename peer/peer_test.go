package peer

import (
	"slices"
	"strconv"
	"strings"
	"testing"

	"covey/addr"
	"covey/api"
	"covey/bits"
	"covey/disk"
	"covey/fast"
	"covey/files"
	"covey/hash"
	"covey/meta"
	"covey/wire"
)

func list() []api.File {
	return []api.File{{Path: []string{"a"}, Length: 70}, {Path: []string{"e"}}, {Path: []string{"b"}, Length: 37}, {Path: []string{"c"}, Length: 100}}
}

func dataOf(l []api.File) []string {
	var out []string
	for _, f := range l {
		s := strings.Repeat("\x00", f.Length)
		if !f.Pad {
			s, _ = hash.Stream(strings.Join(f.Path, "/"), 0, f.Length)
		}
		out = append(out, s)
	}
	return out
}

func metaOf(t *testing.T, version int) api.Meta {
	t.Helper()
	m, e := meta.Make("name", version, 32, false, list(), dataOf(list()))
	if e != api.OK {
		t.Fatal(e)
	}
	return m
}

func client(k, version int) api.Client {
	a, _ := addr.V4(10, 0, 0, k+1, 6881)
	return api.Client{Version: version, Peer: (strconv.Itoa(k) + strings.Repeat("p", 20))[:20], Addr: a, Fast: true, Slots: 3, Queue: 4}
}

func made(t *testing.T, m api.Meta, c api.Client) *Peer {
	t.Helper()
	p, e := New(m, c, disk.New(), "seed"+c.Peer)
	if e != api.OK {
		t.Fatal(e)
	}
	return p
}

// fill gives a peer pieces, all if none are told.
func fill(t *testing.T, p *Peer, l ...int) *Peer {
	t.Helper()
	d := dataOf(p.info.Files)
	for i := range p.Pieces() {
		if len(l) > 0 && !slices.Contains(l, i) {
			continue
		}
		spans, _ := files.Spans(p.info.Files, 32, p.new, i)
		x, _ := files.Read(p.info.Files, d, spans)
		if e := p.Put(i, x); e != api.OK {
			t.Fatal(i, e)
		}
	}
	return p
}

// watcher holds what two ends send to each other against the rules.
type watcher struct {
	side  *fast.Side
	in    [2]*wire.Reader
	hello [2]api.Hello
}

func watch(n, last int) *watcher {
	return &watcher{in: [2]*wire.Reader{wire.New(true), wire.New(true)}}
}

func (w *watcher) see(t *testing.T, from int, s string, n, last int) {
	t.Helper()
	if e := w.in[from].Feed(s); e != api.OK {
		t.Error("wrong bytes", e)
	}
	a, ok1 := w.in[0].Hello()
	b, ok2 := w.in[1].Hello()
	if !ok1 || !ok2 {
		return
	}
	if w.side == nil {
		w.side, _ = fast.New(n, 32, last, 100, a.Fast && b.Fast)
	}
	for {
		m, ok := w.in[from].Next()
		if !ok {
			return
		}
		if e := w.side.Step(from == 0, m); e != api.OK {
			t.Error("a rule was broken", from, m.Kind, m.Index, e)
		}
	}
}

// net is peers with connections: each pair has a number, and one of the ways.
type net struct {
	t     *testing.T
	peers []*Peer
	pairs map[int][2]int
	w     map[int]*watcher
	sizes map[int][2]int
	cut   int
	now   int
}

func (n *net) connect(a, b int, new bool) {
	n.t.Helper()
	k := 1 + len(n.pairs)
	if n.pairs == nil {
		n.pairs, n.w, n.sizes = map[int][2]int{}, map[int]*watcher{}, map[int][2]int{}
	}
	n.pairs[k] = [2]int{a, b}
	n.w[k] = watch(0, 0)
	sizes := n.peers[a].ways[index(new)].sizes
	n.sizes[k] = [2]int{len(sizes), sizes[len(sizes)-1]}
	if n.peers[a].Connect(k, true, new) != api.OK || n.peers[b].Connect(k, false, new) != api.OK {
		n.t.Error("Connect")
	}
}

// second lets a second go by.
func (n *net) second() { n.pass(1) }

// pass lets so many seconds go by at once.
func (n *net) pass(seconds int) {
	for _, p := range n.peers {
		if e := p.Tick(n.now); e != api.OK {
			n.t.Error(e)
		}
	}
	n.now += seconds
	for k := 1; k <= len(n.pairs); k++ {
		for from := range 2 {
			a, b := n.peers[n.pairs[k][from]], n.peers[n.pairs[k][1-from]]
			s := a.Out(k)
			n.w[k].see(n.t, from, s, n.sizes[k][0], n.sizes[k][1])
			for i := 0; i < len(s); i += n.cut {
				b.Feed(k, s[i:min(len(s), i+n.cut)])
			}
			for _, x := range []*Peer{a, b} {
				if !x.Open(k) {
					a.Close(k)
					b.Close(k)
				}
			}
		}
	}
}

// whole checks that a peer has all, and tells the files' bytes.
func whole(t *testing.T, p *Peer) {
	t.Helper()
	full, _ := bits.Full(p.Pieces())
	if !p.Done() || p.Had() != full {
		t.Errorf("not whole: %x", p.Had())
		return
	}
	d := dataOf(p.info.Files)
	for k, f := range p.info.Files {
		s, e := p.Data(k)
		if f.Pad && p.new {
			if e != api.ErrKind {
				t.Error("a pad", e)
			}
			continue
		}
		if s != d[k] || e != api.OK {
			t.Error("Data", k, e)
		}
	}
}

func TestP351Errors(t *testing.T) {
	var none *Peer
	if none.Put(0, "") != api.ErrInvalid || none.Connect(0, true, true) != api.ErrInvalid || none.Feed(1, "") != api.ErrInvalid || none.Out(1) != "" || none.Close(1) != api.ErrInvalid || none.Tick(0) != api.ErrInvalid || none.Open(1) || none.Conns() != nil || none.Lets(1) || none.Let(1) || none.Had() != "" || none.Done() || none.Pieces() != 0 || none.Banned() != nil || none.Disk() != nil {
		t.Error("nil")
	}
	if _, e := none.Check(); e != api.ErrInvalid {
		t.Error(e)
	}
	if _, e := none.Data(0); e != api.ErrInvalid {
		t.Error(e)
	}
	good := client(0, api.VBoth)
	m := metaOf(t, api.VBoth)
	for k, f := range []func(c *api.Client){
		func(c *api.Client) { c.Version = 0 }, func(c *api.Client) { c.Version = 4 }, func(c *api.Client) { c.Peer = "x" }, func(c *api.Client) { c.Addr.Port = 0 }, func(c *api.Client) { c.Slots = 0 }, func(c *api.Client) { c.Slots = 21 },
		func(c *api.Client) { c.Queue = 0 }, func(c *api.Client) { c.Queue = 101 }, func(c *api.Client) { c.Lie = -1 },
	} {
		c := good
		f(&c)
		if _, e := New(m, c, disk.New(), ""); e != api.ErrInvalid || ValidClient(c) {
			t.Error(k, e)
		}
	}
	if _, e := New(api.Meta{}, good, disk.New(), ""); e != api.ErrInvalid {
		t.Error(e)
	}
	if _, e := New(m, good, nil, ""); e != api.ErrInvalid {
		t.Error(e)
	}
	if _, e := New(m, good, disk.New(), strings.Repeat("x", 101)); e != api.ErrInvalid {
		t.Error(e)
	}
	for _, c := range [][2]int{{api.VOld, api.VNew}, {api.VOld, api.VBoth}, {api.VNew, api.VOld}, {api.VNew, api.VBoth}} {
		if _, e := New(metaOf(t, c[0]), client(0, c[1]), disk.New(), ""); e != api.ErrKind {
			t.Error(c, e)
		}
	}
	p := made(t, m, client(0, api.VOld))
	if p.Connect(0, true, true) != api.ErrKind || p.Connect(0, true, false) != api.ErrRange || p.Connect(1001, false, true) != api.ErrRange || p.Connect(1, true, false) != api.OK || p.Connect(1, false, false) != api.ErrDuplicate || made(t, m, client(0, api.VNew)).Connect(1, true, false) != api.ErrKind {
		t.Error("Connect")
	}
	if p.Feed(0, "") != api.ErrRange || p.Feed(2, "") != api.ErrNone || p.Close(2) != api.ErrNone || p.Close(0) != api.ErrRange || p.Close(1) != api.OK || p.Close(1) != api.ErrNone || p.Feed(1, "") != api.ErrNone || len(p.Out(1)) != 68 || p.Out(1) != "" || p.Connect(1, true, false) != api.OK {
		t.Error("Close")
	}
	p.Tick(10)
	for _, now := range []int{-1, 9, api.MaxTime + 1} {
		if p.Tick(now) != api.ErrRange {
			t.Error(now)
		}
	}
	for _, f := range []int{-1, len(p.info.Files)} {
		if _, e := p.Data(f); e != api.ErrRange {
			t.Error(e)
		}
	}
	if _, e := p.Data(0); e != api.ErrState {
		t.Error(e)
	}
	if s, e := p.Data(1); s != "" || e != api.ErrState && e != api.OK {
		t.Error(e)
	}
	fill(t, p)
	if p.Put(0, "x") != api.ErrSize || p.Put(99, "") != api.ErrRange {
		t.Error("Put")
	}
	p.Disk().Write("c/name/a", 0, "?")
	if _, e := p.Data(0); e != api.ErrData {
		t.Error(e)
	}
	if has := p.Had(); has[0]&0x80 != 0 {
		t.Error("not had any more")
	}
}

func greeting(name, peer string, fast bool) string {
	s, _ := wire.Hello(api.Hello{Name: name, Peer: peer, Fast: fast})
	return s
}

func TestGreetings(t *testing.T) {
	m := metaOf(t, api.VBoth)
	old, fresh, _, _ := meta.Names(m.Info)
	other := client(9, api.VBoth).Peer
	for k, c := range []struct {
		version  int
		name     string
		peer     string
		fast     bool
		accepted bool
	}{
		{api.VNew, old, other, true, false}, {api.VNew, fresh[:20], other, true, true}, {api.VOld, fresh[:20], other, true, false}, {api.VOld, old, other, false, true}, {api.VBoth, old, other, true, true}, {api.VBoth, fresh[:20], other, false, true},
		{api.VBoth, hash.Old("x"), other, true, false}, {api.VBoth, old, client(0, 1).Peer, true, false},
	} {
		p := made(t, m, client(0, c.version))
		p.Connect(5, false, false)
		if p.Out(5) != "" {
			t.Error("one that is called waits")
		}
		e := p.Feed(5, greeting(c.name, c.peer, c.fast))
		if (e == api.OK) != c.accepted || e != api.OK && e != api.ErrRefused || p.Open(5) != c.accepted {
			t.Error(k, e)
		}
		out := p.Out(5)
		if !c.accepted {
			if out != "" || p.Feed(5, "") != api.ErrNone {
				t.Error(k, "closed")
			}
			continue
		}
		h, used, _, _ := wire.ReadHello(out)
		if h.Name != c.name || h.Peer != p.client.Peer || !h.Fast || h.Extend || h.New != (c.version != api.VOld) {
			t.Error(k, h)
		}
		x, _, _, e := wire.Decode(out[used:])
		if c.fast && (x.Kind != api.MNone || e != api.OK) || !c.fast && len(out) != used {
			t.Error(k, x, e)
		}
		if o, ok := p.Other(5); !ok || o.Peer != c.peer {
			t.Error(k, o)
		}
		// The Peer of another connection that is not closed.
		p.Connect(6, false, false)
		if p.Feed(6, greeting(c.name, c.peer, true)) != api.ErrRefused {
			t.Error(k, "twice")
		}
		p.Close(5)
		p.Connect(6, false, false)
		if p.Feed(6, greeting(c.name, c.peer, true)) != api.OK {
			t.Error(k, "closed before")
		}
	}
	caller := made(t, m, client(0, api.VBoth))
	caller.Connect(1, true, true)
	if e := caller.Feed(1, greeting(old, other, true)); e != api.ErrRefused {
		t.Error("another way than it was called", e)
	}
	seed := fill(t, made(t, m, client(0, api.VBoth)))
	for _, fast := range []bool{true, false} {
		seed.Connect(1, false, false)
		seed.Feed(1, greeting(old, other, fast))
		x, _, _, _ := wire.Decode(seed.Out(1)[68:])
		if fast && x.Kind != api.MAll || !fast && (x.Kind != api.MBits || x.Data != seed.Had()) {
			t.Error(x)
		}
		// A rule that is broken.
		if e := seed.Feed(1, must(wire.Encode(api.Msg{Kind: api.MHave, Index: 99}))); e != api.ErrRefused {
			t.Error(e)
		}
	}
}

func TestP352Proved(t *testing.T) {
	m := metaOf(t, api.VBoth)
	old, _, _, _ := meta.Names(m.Info)
	for seed := range 40 {
		p := fill(t, made(t, m, client(0, 1+seed%3)), 1)
		k := 0
		draw := func(n int) int {
			k++
			v, _ := hash.Draw("junk"+strconv.Itoa(seed), k, n)
			return v
		}
		name := old
		if p.client.Version == api.VNew {
			name = p.ways[1].name
		}
		p.Connect(1, false, false)
		p.Feed(1, greeting(name, client(9, 1).Peer, true)+must(wire.Encode(api.Msg{Kind: api.MAll})))
		p.Feed(1, must(wire.Encode(api.Msg{Kind: api.MUnchoke})))
		in := wire.New(true)
		for now := range 60 {
			p.Tick(now)
			in.Feed(p.Out(1))
			for in.Waiting() > 0 {
				x, _ := in.Next()
				if x.Kind != api.MRequest {
					continue
				}
				d, _ := hash.Stream("junk", draw(100), x.Length)
				if draw(3) == 0 {
					d = strings.Repeat("\x00", x.Length)
				}
				p.Feed(1, must(wire.Encode(api.Msg{Kind: api.MPiece, Index: x.Index, Begin: x.Begin, Data: d})))
			}
			junk, _ := hash.Stream("bytes", draw(1000), draw(6))
			if draw(20) == 0 {
				p.Feed(1, junk)
			}
		}
		l, _ := bits.List(p.Pieces(), p.Had())
		if !slices.Equal(l, []int{1}) || p.Done() {
			t.Error("had", l)
		}
		if len(p.Banned()) == 0 && p.Open(1) {
			t.Error("who spoils is banned", seed)
		}
	}
}

func TestP354Two(t *testing.T) {
	for _, version := range []int{api.VOld, api.VNew, api.VBoth} {
		for k := range 8 {
			m := metaOf(t, version)
			a, b := client(0, version), client(1, version)
			a.Fast, b.Fast, b.InOrder, b.Whole = k&1 != 0, k&2 != 0, k&4 != 0, k&1 == 0
			a.Queue, b.Queue = 1+k*7, 1+k*3
			for _, new := range []bool{false, true} {
				if new && version == api.VOld || !new && version == api.VNew {
					continue
				}
				for _, cut := range []int{1, 7, 100000} {
					n := &net{t: t, peers: []*Peer{fill(t, made(t, m, a)), made(t, m, b)}, cut: cut}
					if k&2 == 0 {
						n.connect(0, 1, new)
					} else {
						n.connect(1, 0, new)
					}
					for range 60 {
						n.second()
					}
					whole(t, n.peers[1])
					got, _ := n.peers[1].Moved()
					_, sent := n.peers[0].Moved()
					if !n.peers[0].Open(1) || !n.peers[1].Open(1) || got != sent || got < 207 || !n.peers[0].Lets(1) && !n.peers[1].Done() {
						t.Error("stay connected", got, sent)
					}
					if len(n.peers[0].Banned())+len(n.peers[1].Banned()) > 0 {
						t.Error("banned")
					}
				}
			}
		}
	}
}

func TestSlowTime(t *testing.T) {
	// What was given up and comes all the same is taken: time goes on by more than 30 seconds between asking and getting.
	for _, fast := range []bool{true, false} {
		m := metaOf(t, api.VNew)
		a, b := client(0, api.VNew), client(1, api.VNew)
		a.Fast, b.Fast = fast, fast
		p, q := fill(t, made(t, m, a)), made(t, m, b)
		p.Connect(1, true, true)
		q.Connect(1, false, true)
		for k := range 60 {
			p.Tick(k * 50)
			q.Tick(k * 50)
			x, y := p.Out(1), q.Out(1)
			q.Feed(1, x)
			p.Feed(1, y)
		}
		whole(t, q)
		if !p.Open(1) || !q.Open(1) {
			t.Error("open", fast)
		}
	}
}

func TestHybrid(t *testing.T) {
	m := metaOf(t, api.VBoth)
	// An old one has all, a new one wants it: the one of both between them hands it on.
	for k := range 2 {
		n := &net{t: t, peers: []*Peer{made(t, m, client(0, api.VOld)), made(t, m, client(1, api.VBoth)), made(t, m, client(2, api.VNew))}, cut: 1000}
		fill(t, n.peers[2*k])
		n.connect(0, 1, false)
		n.connect(2, 1, true)
		for range 120 {
			n.second()
		}
		for _, p := range n.peers {
			whole(t, p)
		}
	}
}

func TestRequests(t *testing.T) {
	m := metaOf(t, api.VBoth)
	for _, fast := range []bool{true, false} {
		p := fill(t, made(t, m, client(0, api.VBoth)))
		p.Connect(1, false, false)
		p.Feed(1, greeting(p.ways[0].name, client(9, 1).Peer, fast))
		if fast {
			p.Feed(1, must(wire.Encode(api.Msg{Kind: api.MNone})))
		}
		ask := func(i, begin, n int) []api.Msg {
			p.Out(1)
			p.Feed(1, must(wire.Encode(api.Msg{Kind: api.MRequest, Index: i, Begin: begin, Length: n})))
			in := wire.New(false)
			in.Feed(p.Out(1))
			var l []api.Msg
			for in.Waiting() > 0 {
				x, _ := in.Next()
				l = append(l, x)
			}
			return l
		}
		if l := ask(0, 0, 16); fast && (len(l) != 1 || l[0].Kind != api.MReject) || !fast && len(l) != 0 {
			t.Error("choked", l)
		}
		p.Feed(1, must(wire.Encode(api.Msg{Kind: api.MInterested})))
		p.Tick(0)
		if !p.Lets(1) || p.Let(1) {
			t.Error("one that waits is let")
		}
		d := dataOf(p.info.Files)[0]
		// Beyond the own piece on a connection of the old way are zeros.
		if l := ask(2, 0, 16); len(l) != 1 || l[0].Data != d[64:70]+strings.Repeat("\x00", 10) {
			t.Error(l)
		}
		if l := ask(2, 16, 16); len(l) != 1 || l[0].Data != strings.Repeat("\x00", 16) {
			t.Error(l)
		}
		if l := ask(2, 3, 29); len(l) != 1 || l[0].Data != d[67:70]+strings.Repeat("\x00", 26) {
			t.Error(l)
		}
		p.Disk().Write("c/name/a", 0, "?")
		l := ask(0, 0, 16)
		if fast && (len(l) == 0 || l[0].Kind != api.MReject) || p.Open(1) != fast {
			t.Error("not proved any more", l)
		}
		if fast && !slices.ContainsFunc(ask(1, 0, 16), func(x api.Msg) bool { return x.Kind == api.MPiece && x.Data == d[32:48] }) {
			t.Error("others are")
		}
	}
	// A liar spoils every third block; what was asked long ago is given up.
	c := client(0, api.VNew)
	c.Lie = 3
	p := fill(t, made(t, metaOf(t, api.VNew), c))
	n := &net{t: t, peers: []*Peer{p, made(t, metaOf(t, api.VNew), client(1, api.VNew))}, cut: 1000}
	n.connect(0, 1, true)
	for range 30 {
		n.second()
	}
	if !slices.Equal(n.peers[1].Banned(), []string{c.Peer}) || n.peers[1].Open(1) {
		t.Error(n.peers[1].Banned())
	}
	q := made(t, metaOf(t, api.VNew), client(0, api.VNew))
	q.Connect(1, false, false)
	q.Feed(1, greeting(q.ways[1].name, client(9, 1).Peer, true)+must(wire.Encode(api.Msg{Kind: api.MBits, Data: "\xff\x80"})))
	q.Feed(1, must(wire.Encode(api.Msg{Kind: api.MUnchoke})))
	if len(q.picker.Asked(1)) != 4 {
		t.Error("Queue", q.picker.Asked(1))
	}
	q.Out(1)
	q.Tick(29)
	if q.Out(1) != "" {
		t.Error("too early")
	}
	q.Tick(30)
	if out := q.Out(1); strings.Count(out, string(must(wire.Encode(api.Msg{Kind: api.MCancel, Length: 16}))[:5])) != 4 || len(q.picker.Asked(1)) != 0 {
		t.Error("given up", len(q.picker.Asked(1)))
	}
}

func TestP355Liars(t *testing.T) {
	for seed := range 12 {
		version := 1 + seed%3
		m := metaOf(t, version)
		new := version != api.VOld
		var peers []*Peer
		for k := range 5 {
			c := client(k, version)
			c.Fast = (seed+k)%2 == 0
			c.Queue = 2 + seed
			if k == 1 || k == 2 && seed%2 == 0 {
				c.Lie = 1 + (seed+k)%4
			}
			p := made(t, m, c)
			if k < 3 {
				fill(t, p)
			}
			peers = append(peers, p)
		}
		n := &net{t: t, peers: peers, cut: 500}
		for a := range peers {
			for b := range a {
				n.connect(a, b, new)
			}
		}
		for range 300 {
			n.second()
		}
		for k, p := range peers {
			if p.client.Lie > 0 {
				continue
			}
			whole(t, p)
			for _, name := range p.Banned() {
				i := slices.IndexFunc(peers, func(x *Peer) bool { return x.client.Peer == name })
				if peers[i].client.Lie == 0 {
					t.Error("an honest one was banned", seed, k, i)
				}
			}
		}
	}
}

func TestResumed(t *testing.T) {
	for _, version := range []int{api.VOld, api.VNew, api.VBoth} {
		m := metaOf(t, version)
		p := fill(t, made(t, m, client(0, version)), 0, 2, 3)
		claim, e := p.Claim()
		had := p.Had()
		if e != api.OK {
			t.Fatal(e)
		}
		fill(t, p, 1)
		q, _ := New(m, client(0, version), p.Disk(), "")
		if q.Done() || q.Had() != "\x00" && q.Had() != "\x00\x00" {
			t.Error("a peer that has nothing")
		}
		q.Connect(1, false, false)
		name := q.ways[index(version != api.VOld)].name
		q.Feed(1, greeting(name, client(9, 1).Peer, false))
		q.Out(1)
		if n, e := q.Resume(claim); n != 3 || q.Had() != had || e != api.OK {
			t.Error(n, e)
		}
		if out := q.Out(1); len(out) != 3*9 {
			t.Error("tells of each piece", len(out))
		}
		if n, e := q.Check(); n != 4 || e != api.OK {
			t.Error(n, e)
		}
		if out := q.Out(1); len(out) != 9 {
			t.Error("tells of each piece", len(out))
		}
		if _, e := q.Resume("x"); e != api.ErrSyntax {
			t.Error(e)
		}
	}
}
