package trade

import (
	"reflect"
	"slices"
	"strings"
	"testing"

	"covey/api"
	"covey/choke"
	"covey/hash"
)

func players(l ...int) []api.Player {
	var out []api.Player
	for i := 0; i < len(l); i += 2 {
		out = append(out, api.Player{Strategy: l[i], Rate: l[i+1]})
	}
	return out
}

func made(t *testing.T, l ...int) *Game {
	t.Helper()
	g, e := New("seed", players(l...))
	if e != api.OK {
		t.Fatal(e)
	}
	return g
}

func round(t *testing.T, g *Game, want ...[]int) {
	t.Helper()
	got, e := g.Round()
	if e != api.OK || len(want) > 0 && !reflect.DeepEqual(got, want) {
		t.Error("Round", got, want, e)
	}
}

func crowd(seed string, n int) []api.Player {
	var l []api.Player
	for i := range n {
		s, _ := hash.Draw(seed, 2*i, 7)
		r, _ := hash.Draw(seed, 2*i+1, 3000)
		l = append(l, api.Player{Strategy: s + 1, Rate: r})
	}
	return l
}

func TestP321Errors(t *testing.T) {
	var none *Game
	good := api.Player{Strategy: 1, Rate: 5}
	if _, e := none.Round(); e != api.ErrInvalid || none.Play(-1) != api.ErrInvalid || none.Change(0, good) != api.ErrInvalid || none.Rounds() != 0 || none.Copy() != nil {
		t.Error(e)
	}
	if _, e := none.Means(); e != api.ErrInvalid {
		t.Error(e)
	}
	if _, _, e := none.Best(-1, -1); e != api.ErrInvalid {
		t.Error(e)
	}
	for _, p := range []api.Player{{}, {Strategy: 8}, {Strategy: 1, Rate: -1}, {Strategy: 1, Rate: 1000001}} {
		_, e1 := New("s", []api.Player{p})
		_, e2 := Equal([]api.Player{p}, "s", -1, -1)
		if Valid(p) || e1 != api.ErrInvalid || e2 != e1 || made(t, 1, 1, 1, 1).Change(9, p) != e1 {
			t.Error(p, e1, e2)
		}
	}
	if _, e := New(strings.Repeat("x", 101), nil); e != api.ErrInvalid {
		t.Error(e)
	}
	for _, n := range []int{0, 1, 41} {
		l := slices.Repeat([]api.Player{good}, n)
		if _, e := New("", l); e != api.ErrSize {
			t.Error(n, e)
		}
		if _, e := Equal(l, "", -1, -1); e != api.ErrSize {
			t.Error(n, e)
		}
	}
	g := made(t, 3, 10, 3, 20)
	for _, n := range []int{-1, 2} {
		_, e1 := g.Got(n)
		_, e2 := g.Gave(n)
		_, e3 := g.Between(0, n)
		_, e4 := g.Between(n, 0)
		_, e5 := g.Last(n)
		_, _, e6 := g.Best(n, 1)
		for i, e := range []api.Errno{e1, e2, e3, e4, e5, e6, g.Change(n, good)} {
			if e != api.ErrRange {
				t.Error(n, i, e)
			}
		}
	}
	for _, r := range []int{-1, 201} {
		_, _, e1 := g.Best(0, r)
		_, e2 := Equal(players(1, 1, 1, 1), "", r, 0)
		_, e3 := Equal(players(1, 1, 1, 1), "", 1, r*10)
		if g.Play(r) != api.ErrRange || e1 != api.ErrRange || e2 != e1 || e3 != e1 {
			t.Error(r, e1, e2, e3)
		}
	}
	for range 5 {
		g.Play(199)
	}
	if g.Rounds() != 995 || g.Play(6) != api.ErrLimit || g.Play(5) != api.OK || g.Rounds() != 1000 {
		t.Error(g.Rounds())
	}
	if _, e := g.Round(); e != api.ErrLimit {
		t.Error(e)
	}
	if _, _, e := g.Best(0, 1); e != api.ErrLimit {
		t.Error(e)
	}
}

func TestStrategies(t *testing.T) {
	g := made(t, openly, 10, openly, 20)
	if m, _ := g.Means(); !slices.Equal(m, make([]int, 7)) {
		t.Error(m)
	}
	if l, e := g.Last(0); !slices.Equal(l, []int{0, 0}) || e != api.OK {
		t.Error(l)
	}
	round(t, g, []int{0, 10}, []int{20, 0})
	if a, _ := g.Got(0); a != 20 {
		t.Error(a)
	}
	if m, _ := g.Means(); !slices.Equal(m, []int{0, 0, 15, 0, 0, 0, 0}) {
		t.Error(m)
	}
	// best: the next number, round; then the one that gave most.
	g = made(t, bestly, 10, freely, 9, openly, 7, bestly, 8)
	round(t, g, []int{0, 10, 0, 0}, []int{0, 0, 0, 0}, []int{2, 2, 0, 2}, []int{8, 0, 0, 0})
	round(t, g, []int{0, 0, 0, 10}, []int{0, 0, 0, 0}, []int{2, 2, 0, 2}, []int{0, 0, 8, 0})
	// grim: those that gave in each round so far.
	g = made(t, grimly, 10, openly, 10, freely, 10)
	round(t, g, []int{0, 5, 5}, []int{5, 0, 5}, []int{0, 0, 0})
	round(t, g, []int{0, 10, 0}, []int{5, 0, 5}, []int{0, 0, 0})
	g.Change(2, api.Player{Strategy: openly, Rate: 10})
	round(t, g, []int{0, 10, 0}, []int{5, 0, 5}, []int{5, 5, 0})
	g.Change(1, api.Player{Strategy: freely})
	round(t, g)
	round(t, g, []int{0, 0, 0}, []int{0, 0, 0}, []int{5, 5, 0})
	// mirror: what came in the last round, as long as there is any.
	g = made(t, mirrored, 9, openly, 10, openly, 10)
	round(t, g, []int{0, 4, 4}, []int{5, 0, 5}, []int{5, 5, 0})
	round(t, g, []int{0, 5, 4}, []int{5, 0, 5}, []int{5, 5, 0})
}

func TestTyrant(t *testing.T) {
	g := made(t, tyrannic, 100, openly, 30, freely, 9, openly, 90, freely, 5)
	round(t, g, []int{0, 25, 25, 25, 25}, []int{7, 0, 7, 7, 7}, []int{0, 0, 0, 0, 0}, []int{22, 22, 22, 0, 22}, []int{0, 0, 0, 0, 0})
	// Prices: 25 for those that gave, 30 for those that did not; 3 gave more than 1.
	round(t, g, []int{0, 25, 30, 25, 0}, []int{7, 0, 7, 7, 7}, []int{0, 0, 0, 0, 0}, []int{22, 22, 22, 0, 22}, []int{0, 0, 0, 0, 0})
	round(t, g, []int{0, 25, 36, 25, 0}, []int{7, 0, 7, 7, 7}, []int{0, 0, 0, 0, 0}, []int{22, 22, 22, 0, 22}, []int{0, 0, 0, 0, 0})
	// A tenth cheaper behind three rounds, and each further one.
	round(t, g, []int{0, 23, 43, 23, 0}, []int{7, 0, 7, 7, 7}, []int{0, 0, 0, 0, 0}, []int{22, 22, 22, 0, 22}, []int{0, 0, 0, 0, 0})
	l, _ := g.Round()
	if l[0][1] != 21 || l[0][3] != 21 || l[0][2] != 51 {
		t.Error(l[0])
	}
	g.Change(0, api.Player{Strategy: tyrannic, Rate: 40})
	l, _ = g.Round()
	if !slices.Equal(l[0], []int{0, 10, 10, 10, 10}) {
		t.Error("a tyrant begins to think anew", l[0])
	}
	small := made(t, tyrannic, 3, freely, 9)
	for _, want := range []int{0, 1, 2, 3, 3} {
		l, _ := small.Round()
		if l[0][1] != want {
			t.Error("dearer", l[0], want)
		}
	}
	one := made(t, tyrannic, 8, openly, 1)
	for _, want := range []int{2, 2, 2, 2, 2} {
		if l, _ := one.Round(); l[0][1] != want {
			t.Error("a tenth, cut", l[0])
		}
	}
}

func TestFair(t *testing.T) {
	for _, seed := range []string{"s", strings.Repeat("x", 97), strings.Repeat("x", 98), strings.Repeat("x", 100)} {
		g, e := New(seed, players(fairly, 100, openly, 50, openly, 10, freely, 0, openly, 70, freely, 3, mirrored, 4, fairly, 9))
		if e != api.OK {
			t.Fatal(e)
		}
		for k := range 12 {
			l := g.rivals(0)
			if slow := longRound(k, seed+" 0", l); len(seed) < 98 {
				want, e := choke.Round(1, k, 4, seed+" 0", l)
				if !slices.Equal(slow, want) || e != api.OK {
					t.Error(k, slow, want)
				}
			}
			for _, r := range l {
				if r.Chokes != (r.From == 0) || r.Seed || !r.Interested || (r.Let == -1) != (g.all[0][r.ID] == 0) || r.Snubbed && k < 3 {
					t.Error(r)
				}
			}
			out, _ := g.Round()
			n, all := 0, 0
			for _, x := range out[0] {
				if x > 0 {
					n++
				}
				all += x
			}
			if n != 4 || all != 100 {
				t.Error("four are let", out[0])
			}
			if k > 0 && (out[0][1] == 0 || out[0][4] == 0) {
				t.Error("those that gave most", out[0])
			}
		}
	}
	g := made(t, fairly, 10, freely, 0)
	g.Play(3)
	if r := g.rivals(0); !r[0].Snubbed {
		t.Error("snubbed", r)
	}
	if l, _ := g.Round(); l[0][1] != 10 {
		t.Error("optimistic", l)
	}
}

func TestP322Rate(t *testing.T) {
	for s := range 8 {
		l := crowd("rate"+string(rune('a'+s)), 2+3*s)
		g, _ := New("seed", l)
		for range 30 {
			t1, _ := g.Round()
			for i, row := range t1 {
				n := 0
				for k, x := range row {
					if x < 0 || i == k && x != 0 {
						t.Error("to itself", i)
					}
					n += x
				}
				if n > l[i].Rate || l[i].Strategy == freely && n > 0 {
					t.Error("more than its Rate", i, n, l[i])
				}
				if last, _ := g.Last(i); !slices.Equal(last, row) {
					t.Error("Last")
				}
			}
		}
		got, gave, between := 0, 0, 0
		for i := range l {
			a, _ := g.Got(i)
			b, _ := g.Gave(i)
			got, gave = got+a, gave+b
			for k := range l {
				c, _ := g.Between(i, k)
				between += c
			}
		}
		if got != gave || got != between || got == 0 {
			t.Error("P32.3", got, gave, between)
		}
	}
}

func TestP324Free(t *testing.T) {
	l := append(crowd("free", 10), players(grimly, 100, freely, 50, grimly, 7)...)
	g, _ := New("seed", l)
	for k := range 20 {
		r, _ := g.Round()
		for i, p := range l {
			if p.Strategy != freely {
				continue
			}
			for n, q := range l {
				if r[i][n] != 0 || k >= 2 && q.Strategy == grimly && r[n][i] != 0 {
					t.Error("free", k, i, n)
				}
			}
		}
	}
}

func TestP325Alike(t *testing.T) {
	l := crowd("alike", 12)
	a, _ := New("seed", l)
	b, _ := New("seed", l)
	a.Play(15)
	for range 15 {
		b.Round()
	}
	c := a.Copy()
	for range 5 {
		x, _ := a.Round()
		y, _ := b.Round()
		z, _ := c.Round()
		if !reflect.DeepEqual(x, y) || !reflect.DeepEqual(y, z) {
			t.Error("alike")
		}
	}
	c.Play(3)
	if a.Rounds() != 20 || c.Rounds() != 23 {
		t.Error("a copy is one of its own")
	}
}

func TestP326Equal(t *testing.T) {
	for s := range 4 {
		l := crowd("equal"+string(rune('a'+s)), 4)
		was := false
		for _, band := range []int{0, 50, 200, 500, 1000} {
			is, e := Equal(l, "seed", 12, band)
			if was && !is || e != api.OK {
				t.Error("a greater band", s, band)
			}
			was = is
		}
	}
	// Nobody can get more than all that an open one gives.
	if is, e := Equal(players(openly, 10, openly, 10), "", 20, 0); !is || e != api.OK {
		t.Error("two open ones", e)
	}
	if is, _ := Equal(players(grimly, 10, freely, 10), "", 20, 0); is {
		t.Error("a free one could get more from a grim one")
	}
	g := made(t, grimly, 10, freely, 10)
	g.Round()
	before := g.Copy()
	s, got, e := g.Best(1, 10)
	if got != 0 || s != 1 || e != api.OK || !reflect.DeepEqual(before, g) {
		t.Error(s, got, e)
	}
	h := made(t, grimly, 10, freely, 10)
	s, got, _ = h.Best(1, 10)
	if s != 1 || got != 100 {
		t.Error("the least of equal ones", s, got)
	}
	// With its own strategy a player goes on as it is.
	k := made(t, tyrannic, 100, openly, 10)
	k.Play(6)
	own := k.by(0, tyrannic, 5)
	k.Play(5)
	if n, _ := k.Last(1); own != 5*n[0] {
		t.Error(own, n)
	}
}
