package swarm

import (
	"slices"
	"strconv"
	"strings"
	"testing"

	"covey/addr"
	"covey/api"
	"covey/bits"
	"covey/hash"
	"covey/meta"
)

func list() []api.File {
	return []api.File{{Path: []string{"a"}, Length: 70}, {Path: []string{"e"}}, {Path: []string{"b"}, Length: 37}, {Path: []string{"c"}, Length: 100}}
}

func dataOf(l []api.File) []string {
	var out []string
	for _, f := range l {
		s := ""
		if !f.Pad {
			s, _ = hash.Stream(strings.Join(f.Path, "/"), 0, f.Length)
		}
		out = append(out, s)
	}
	return out
}

func metaOf(t *testing.T, version, piece int) (api.Meta, []string) {
	t.Helper()
	m, e := meta.Make("name", version, piece, false, list(), dataOf(list()))
	if e != api.OK {
		t.Fatal(e)
	}
	return m, dataOf(m.Info.Files)
}

func guestOf(k, version int, have ...int) api.Guest {
	a, _ := addr.V4(10, 0, 0, k+1, 6881)
	c := api.Client{Version: version, Peer: (strconv.Itoa(k) + strings.Repeat("p", 20))[:20], Addr: a, Fast: true, Slots: 2, Queue: 4}
	return api.Guest{Client: c, Have: have}
}

func all(n int) []int {
	var l []int
	for i := range n {
		l = append(l, i)
	}
	return l
}

func made(t *testing.T, version int, delays []int, guests ...api.Guest) *Swarm {
	t.Helper()
	m, data := metaOf(t, version, 32)
	s, e := New(m, data, guests, delays, "seed")
	if e != api.OK {
		t.Fatal(e)
	}
	return s
}

func pass(t *testing.T, s *Swarm, n int) {
	t.Helper()
	if e := s.Pass(n); e != api.OK {
		t.Fatal(e)
	}
}

func had(s *Swarm, n int) []int {
	f, _ := s.Had(n)
	l, _ := bits.List(count(s.meta), f)
	return l
}

// proved checks that what guests have is what the content is.
func proved(t *testing.T, s *Swarm) {
	t.Helper()
	d := dataOf(s.meta.Info.Files)
	for n, g := range s.guests {
		for k, f := range s.meta.Info.Files {
			x, e := s.Data(n, k)
			if f.Pad && g.up() && e != api.ErrKind || e == api.OK && x != d[k] || !g.up() && e != api.ErrDown {
				t.Error("Data", n, k, e)
			}
		}
	}
}

func TestP361Errors(t *testing.T) {
	var none *Swarm
	if none.Pass(0) != api.ErrInvalid || none.Fall(0, nil) != api.ErrInvalid || none.Cut(0, 1) != api.ErrInvalid || none.Heal(0, 1) != api.ErrInvalid || none.Now() != 0 || none.Quiet() {
		t.Error("nil")
	}
	if _, e := none.Rise(0, true); e != api.ErrInvalid {
		t.Error(e)
	}
	if _, e := none.Reach(0); e != api.ErrInvalid {
		t.Error(e)
	}
	m, data := metaOf(t, api.VBoth, 32)
	old, oldData := metaOf(t, api.VOld, 32)
	good := []api.Guest{guestOf(0, api.VBoth, 0), guestOf(1, api.VOld)}
	same := []api.Guest{guestOf(0, api.VBoth), guestOf(0, api.VOld)}
	bad := guestOf(0, api.VBoth)
	bad.Client.Slots = 0
	for k, c := range []struct {
		m      api.Meta
		data   []string
		guests []api.Guest
	}{{api.Meta{}, data, good}, {m, nil, good}, {m, append([]string{"x" + data[0][1:]}, data[1:]...), good}, {m, data, nil}, {m, data, make([]api.Guest, 9)}, {m, data, same}, {m, data, []api.Guest{bad}}, {old, oldData, good}, {m, data, []api.Guest{guestOf(0, api.VOld, -1)}}, {m, data, []api.Guest{guestOf(0, api.VOld, 9)}}} {
		if _, e := New(c.m, c.data, c.guests, []int{99}, ""); e != api.ErrInvalid || Valid(c.m, c.data, c.guests) {
			t.Error(k, e)
		}
	}
	if _, e := New(m, data, good, nil, strings.Repeat("x", 101)); e != api.ErrInvalid || !Valid(m, data, good) {
		t.Error(e)
	}
	for _, d := range [][]int{{-1}, {11}, {1, 1}} {
		if _, e := New(m, data, good, d, ""); e != api.ErrRange {
			t.Error(d, e)
		}
	}
	s := made(t, api.VBoth, nil, good...)
	for _, n := range []int{-1, 2} {
		_, e1 := s.Rise(n, true)
		_, e2 := s.Up(n)
		_, e3 := s.Had(n)
		_, e4 := s.Data(n, 99)
		_, e5 := s.Connected(0, n)
		_, e6 := s.Banned(n)
		_, _, e7 := s.Moved(n)
		_, e8 := s.Reach(n)
		for i, e := range []api.Errno{e1, e2, e3, e4, e5, e6, e7, e8, s.Fall(n, nil), s.Cut(n, 0), s.Heal(0, n)} {
			if e != api.ErrRange {
				t.Error(n, i, e)
			}
		}
	}
	if s.Pass(-1) != api.ErrRange || s.Pass(10001) != api.ErrRange || s.Cut(1, 1) != api.ErrRange || s.Heal(0, 1) != api.ErrState || s.Cut(1, 0) != api.OK || s.Cut(0, 1) != api.ErrState || s.Heal(0, 1) != api.OK {
		t.Error("Cut, Heal")
	}
	if _, e := s.Rise(0, true); e != api.ErrState {
		t.Error(e)
	}
	if s.Fall(0, nil) != api.OK || s.Fall(0, nil) != api.ErrState {
		t.Error("Fall")
	}
	_, e1 := s.Had(0)
	_, e2 := s.Done(0)
	_, e3 := s.Data(0, 99)
	_, e4 := s.Banned(0)
	if e1 != api.ErrDown || e2 != e1 || e3 != e1 || e4 != e1 {
		t.Error(e1, e2, e3, e4)
	}
	if up, e := s.Up(0); up || e != api.OK {
		t.Error(up, e)
	}
	if l, e := s.Reach(0); len(l) != 0 || e != api.OK {
		t.Error(l, e)
	}
	if _, e := s.Data(1, 99); e != api.ErrRange {
		t.Error(e)
	}
}

// random is a swarm by draws.
func random(t *testing.T, seed string, liars bool) *Swarm {
	t.Helper()
	k := 0
	draw := func(n int) int {
		k++
		v, _ := hash.Draw(seed, k, n)
		return v
	}
	version := []int{api.VOld, api.VNew, api.VBoth, api.VBoth, api.VBoth}[draw(5)]
	m, data := metaOf(t, version, 16<<draw(3))
	n := 2 + draw(6)
	var guests []api.Guest
	var delays []int
	for i := range n {
		v := version
		if version == api.VBoth {
			v = 1 + draw(3)
		}
		g := guestOf(i, v)
		c := &g.Client
		c.Fast, c.InOrder, c.Whole = draw(3) > 0, draw(3) == 0, draw(2) == 0
		c.Slots, c.Queue = 1+draw(4), 1+draw(12)
		if liars && draw(3) == 0 {
			c.Lie = 1 + draw(5)
		}
		for p := range count(m) {
			if draw(4) == 0 || i == 0 {
				g.Have = append(g.Have, p)
			}
		}
		guests = append(guests, g)
	}
	for range n * (n - 1) / 2 {
		delays = append(delays, draw(11))
	}
	s, e := New(m, data, guests, delays, seed)
	if e != api.OK {
		t.Fatal(e)
	}
	return s
}

// honestOnly checks that no honest guest is banned.
func honestOnly(t *testing.T, s *Swarm) {
	t.Helper()
	for n := range s.guests {
		l, _ := s.Banned(n)
		for _, k := range l {
			if s.guests[k].client.Lie == 0 {
				t.Error("an honest one is banned", n, k)
			}
		}
	}
}

// gets checks that honest guests get all that they can reach within some seconds.
func gets(t *testing.T, s *Swarm, seconds int, what string) {
	t.Helper()
	reach := map[int][]int{}
	for n, g := range s.guests {
		if g.honest() {
			reach[n], _ = s.Reach(n)
		}
	}
	pass(t, s, seconds)
	for n, l := range reach {
		h := had(s, n)
		for _, i := range l {
			if !slices.Contains(h, i) {
				t.Error(what, "guest", n, "lacks", i, "of", l, "has", h, "version", s.guests[n].client.Version, "fast", s.guests[n].client.Fast)
				break
			}
		}
	}
	honestOnly(t, s)
	proved(t, s)
}

func TestExample(t *testing.T) {
	for version := 1; version <= 3; version++ {
		s := made(t, version, nil, guestOf(0, version), guestOf(1, version))
		if s.Now() != 0 || !s.Quiet() {
			t.Error("nothing is done yet")
		}
		n := count(s.meta)
		s = made(t, version, nil, guestOf(0, version, all(n)...), guestOf(1, version))
		pass(t, s, 30)
		if done, e := s.Done(1); !done || e != api.OK || s.Now() != 30 {
			t.Error(version, had(s, 1), e)
		}
		if c, e := s.Connected(0, 1); !c || e != api.OK {
			t.Error(e)
		}
		got, _, _ := s.Moved(1)
		_, sent, _ := s.Moved(0)
		if got != sent || got < 207 {
			t.Error(got, sent)
		}
		proved(t, s)
		// What was got stays counted behind a fall; the link that is cut delivers nothing.
		s.Fall(1, nil)
		if again, _, _ := s.Moved(1); again != got {
			t.Error(again)
		}
		if c, _ := s.Connected(0, 1); c || !s.Quiet() {
			t.Error("a fall closes")
		}
		s.Cut(0, 1)
		s.Rise(1, true)
		pass(t, s, 20)
		if c, _ := s.Connected(0, 1); c {
			t.Error("cut")
		}
		s.Heal(0, 1)
		pass(t, s, 6)
		if c, _ := s.Connected(0, 1); !c {
			t.Error("healed")
		}
	}
	// Old and new ones do not fit.
	s := made(t, api.VBoth, nil, guestOf(0, api.VOld, all(8)...), guestOf(1, api.VNew))
	pass(t, s, 60)
	if c, _ := s.Connected(0, 1); c || len(had(s, 1)) != 0 {
		t.Error("they do not fit")
	}
	if l, _ := s.Reach(1); len(l) != 0 {
		t.Error(l)
	}
}

func TestP363Whole(t *testing.T) {
	for k := range 60 {
		seed := "whole" + strconv.Itoa(k)
		s := random(t, seed, false)
		gets(t, s, 600, seed)
	}
}

func TestP363Troubled(t *testing.T) {
	for k := range 40 {
		seed := "troubled" + strconv.Itoa(k)
		s := random(t, seed, false)
		n := len(s.guests)
		for step := range 30 {
			a, _ := hash.Draw(seed, 1000+3*step, n)
			b, _ := hash.Draw(seed, 1001+3*step, n)
			switch what, _ := hash.Draw(seed, 1002+3*step, 8); what {
			case 0:
				s.Fall(a, []int{step % 3})
			case 1, 2:
				s.Rise(a, step%2 == 0)
			case 3:
				s.Cut(a, b)
			case 4:
				s.Heal(a, b)
			default:
				pass(t, s, 1+step)
			}
			proved(t, s)
		}
		gets(t, s, 600, seed)
	}
}

func TestP364Liars(t *testing.T) {
	for k := range 40 {
		seed := "liars" + strconv.Itoa(k)
		s := random(t, seed, true)
		gets(t, s, 3000, seed)
	}
}

func TestP365Risen(t *testing.T) {
	for version := 1; version <= 3; version++ {
		s := made(t, version, []int{2}, guestOf(0, version, all(7)...), guestOf(1, version))
		for k := range 12 {
			pass(t, s, 3)
			before := had(s, 1)
			s.Fall(1, []int{k % 2})
			n, e := s.Rise(1, k%2 == 0)
			after := had(s, 1)
			if e != api.OK || n != len(after) || k%2 == 1 && !slices.Equal(before, after) {
				t.Error(version, k, before, after, e)
			}
			for _, i := range after {
				if !slices.Contains(before, i) {
					t.Error("by its claim no more", before, after)
				}
			}
			if k%2 == 0 && !slices.Equal(before, after) {
				t.Error("a claim is written whenever a piece becomes had", before, after)
			}
		}
		empty := made(t, version, nil, guestOf(0, version))
		empty.Fall(0, nil)
		if n, e := empty.Rise(0, true); n != 0 || e != api.OK {
			t.Error("it never wrote a claim", n, e)
		}
	}
}

// state is all that a swarm tells.
func state(s *Swarm) string {
	out := strconv.Itoa(s.Now()) + strconv.FormatBool(s.Quiet())
	for n := range s.guests {
		h, _ := s.Had(n)
		got, sent, _ := s.Moved(n)
		b, _ := s.Banned(n)
		out += hash.Hex(h) + " " + strconv.Itoa(got) + " " + strconv.Itoa(sent) + " " + strconv.Itoa(len(b)) + ";"
		for k := range s.guests {
			c, _ := s.Connected(n, k)
			out += strconv.FormatBool(c)
		}
	}
	return out
}

func TestP366Parts(t *testing.T) {
	for k := range 10 {
		seed := "parts" + strconv.Itoa(k)
		a, b := random(t, seed, true), random(t, seed, true)
		for _, n := range []int{0, 1, 7, 30, 2, 100} {
			pass(t, a, n)
			for range n {
				pass(t, b, 1)
			}
			if state(a) != state(b) {
				t.Fatal(seed, n)
			}
		}
	}
}

func TestReach(t *testing.T) {
	liar := guestOf(2, api.VBoth, 5, 6)
	liar.Client.Lie = 2
	s := made(t, api.VBoth, nil, guestOf(0, api.VOld, 0), guestOf(1, api.VBoth, 1), liar, guestOf(3, api.VNew, 3), guestOf(4, api.VNew, 4))
	for n, want := range map[int][]int{0: {0, 1, 3, 4}, 1: {0, 1, 3, 4}, 2: {0, 1, 3, 4}, 3: {0, 1, 3, 4}} {
		if l, e := s.Reach(n); !slices.Equal(l, want) || e != api.OK {
			t.Error(n, l)
		}
	}
	s.Cut(1, 3)
	s.Cut(1, 4)
	if l, _ := s.Reach(0); !slices.Equal(l, []int{0, 1}) {
		t.Error("not through liars", l)
	}
	if l, _ := s.Reach(3); !slices.Equal(l, []int{3, 4}) {
		t.Error(l)
	}
	s.Heal(1, 4)
	s.Fall(4, nil)
	if l, _ := s.Reach(3); !slices.Equal(l, []int{3}) {
		t.Error(l)
	}
}
