package pick

import (
	"reflect"
	"slices"
	"strconv"
	"strings"
	"testing"

	"covey/api"
	"covey/bits"
	"covey/hash"
)

func made(t *testing.T, n, size, last int, inorder bool) *Picker {
	t.Helper()
	p, e := New(n, size, last, "seed", inorder)
	if e != api.OK {
		t.Fatal(e)
	}
	return p
}

func full(n int) string {
	s, _ := bits.Full(n)
	return s
}

// come lets a peer come that has pieces and does not choke.
func come(p *Picker, n int, pieces ...int) {
	p.Join(n)
	for _, i := range pieces {
		p.Have(n, i)
	}
	p.Choke(n, false, false)
}

func b(piece, begin, length int) api.Choice {
	return api.Choice{Piece: piece, Begin: begin, Length: length}
}

func next(t *testing.T, p *Picker, n, most int, want ...api.Choice) {
	t.Helper()
	look, e := p.Look(n, most)
	got, f := p.Next(n, most)
	if !slices.Equal(got, want) || !slices.Equal(look, got) || e != api.OK || f != api.OK {
		t.Error("Next", got, want, e, f)
	}
}

func TestP291Errors(t *testing.T) {
	var none *Picker
	if none.Join(1) != api.ErrInvalid || none.Has(1, "") != api.ErrInvalid || none.Done(0, true) != api.ErrInvalid || none.Had() != "" || none.Asked(1) != nil || none.Ending() || none.Left() != 0 || none.Copy() != nil {
		t.Error("nil")
	}
	if _, e := none.Next(1, 1); e != api.ErrInvalid {
		t.Error(e)
	}
	for k, c := range []struct {
		n, size, last int
		seed          string
		e             api.Errno
	}{{0, 0, 0, strings.Repeat("x", 101), api.ErrInvalid}, {0, 16, 16, "", api.ErrRange}, {4097, 16, 16, "", api.ErrRange}, {1, 8, 8, "", api.ErrRange}, {1, 24, 8, "", api.ErrRange}, {1, 1040, 8, "", api.ErrRange}, {1, 16, 0, "", api.ErrRange}, {1, 16, 17, "", api.ErrRange}, {4096, 48, 1, "", api.OK}} {
		if _, e := New(c.n, c.size, c.last, c.seed, true); e != c.e {
			t.Error(k, e)
		}
	}
	p := made(t, 4, 32, 20, false)
	if p.Join(0) != api.ErrRange || p.Join(1001) != api.ErrRange || p.Join(5) != api.OK || p.Join(5) != api.ErrDuplicate {
		t.Error("Join")
	}
	if p.Has(0, "x") != api.ErrInvalid || p.Has(0, full(4)) != api.ErrRange || p.Has(6, full(4)) != api.ErrNone {
		t.Error("Has")
	}
	for _, f := range []func(n, i int) api.Errno{p.Have, p.Lost, p.Allow, p.Suggest} {
		if f(5, 4) != api.ErrRange || f(5, -1) != api.ErrRange || f(6, 0) != api.ErrNone || f(6, 9) != api.ErrRange || f(5, 0) != api.OK {
			t.Error("pieces")
		}
	}
	if _, e := p.Leave(6); e != api.ErrNone {
		t.Error(e)
	}
	if _, e := p.Next(5, -1); e != api.ErrRange {
		t.Error(e)
	}
	if _, e := p.Look(6, -1); e != api.ErrRange {
		t.Error(e)
	}
	for _, w := range []api.Wish{{Level: -1}, {Level: 8}, {Due: -1}, {Due: api.MaxTime + 1}} {
		if p.Wish(0, w) != api.ErrRange {
			t.Error(w)
		}
	}
	for k, c := range []struct {
		n int
		c api.Choice
		e api.Errno
	}{{0, b(0, 0, 16), api.ErrRange}, {5, b(4, 0, 16), api.ErrRange}, {6, b(0, 1, 16), api.ErrNone}, {5, b(0, 1, 16), api.ErrInvalid}, {5, b(0, -16, 16), api.ErrInvalid}, {5, b(0, 32, 16), api.ErrInvalid}, {5, b(0, 0, 15), api.ErrInvalid}, {5, b(3, 16, 16), api.ErrInvalid}, {5, b(3, 16, 4), api.ErrRefused}} {
		_, _, e := p.Here(c.n, c.c)
		if e != c.e || p.Reject(c.n, c.c) != c.e {
			t.Error(k, e)
		}
	}
	if p.Done(4, true) != api.ErrRange || p.Done(0, true) != api.ErrState || p.Set(4, true) != api.ErrRange {
		t.Error("Done")
	}
	if _, e := p.Count(4); e != api.ErrRange {
		t.Error(e)
	}
	if _, e := p.Free(-1); e != api.ErrRange {
		t.Error(e)
	}
	if _, e := p.Interested(6); e != api.ErrNone {
		t.Error(e)
	}
	for n := range 99 {
		p.Join(100 + n)
	}
	if e := p.Join(99); e != api.ErrLimit {
		t.Error(e)
	}
}

func TestOrder(t *testing.T) {
	p := made(t, 6, 32, 20, true)
	come(p, 1, 0, 1, 2, 3, 4, 5)
	p.Wish(5, api.Wish{Level: 1, Due: 9})
	p.Wish(4, api.Wish{Level: 1, Due: 8})
	p.Wish(3, api.Wish{Level: 5})
	p.Wish(0, api.Wish{})
	p.Suggest(1, 2)
	next(t, p, 1, 3, b(4, 0, 16), b(4, 16, 16), b(5, 0, 16))
	// The piece that is partial now stays first of its Due; then those suggested, then by Level.
	next(t, p, 1, 4, b(5, 16, 4), b(2, 0, 16), b(2, 16, 16), b(3, 0, 16))
	p.Suggest(1, 1)
	next(t, p, 1, 9, b(3, 16, 16), b(1, 0, 16), b(1, 16, 16))
	if p.Left() != 10 || !p.Ending() {
		t.Error(p.Left(), p.Ending())
	}
	if l := p.Asked(1); len(l) != 10 || l[0] != b(4, 0, 16) {
		t.Error(l)
	}
	// Choked: only what it allowed; a snubbed one gets one block.
	q := made(t, 3, 32, 32, true)
	come(q, 1, 0, 1, 2)
	q.Choke(1, true, false)
	next(t, q, 1, 9)
	q.Allow(1, 1)
	next(t, q, 1, 9, b(1, 0, 16), b(1, 16, 16))
	q.Choke(1, false, false)
	q.Snub(1, true)
	next(t, q, 1, 9)
	q.Reject(1, b(1, 0, 16))
	q.Reject(1, b(1, 16, 16))
	next(t, q, 1, 9, b(0, 0, 16))
	q.Snub(1, false)
	next(t, q, 1, 2, b(0, 16, 16), b(1, 0, 16))
	// What is choked is not asked any more, but blocks of allowed pieces.
	if l, e := q.Choke(1, true, true); len(l) != 0 || e != api.OK {
		t.Error(l)
	}
	if l, e := q.Choke(1, true, false); !slices.Equal(l, []api.Choice{b(0, 0, 16), b(0, 16, 16)}) || e != api.OK || !slices.Equal(q.Asked(1), []api.Choice{b(1, 0, 16)}) {
		t.Error(l)
	}
}

func TestEndGame(t *testing.T) {
	p := made(t, 2, 32, 32, true)
	for n := 1; n <= 4; n++ {
		come(p, n, 0, 1)
	}
	next(t, p, 1, 3, b(0, 0, 16), b(0, 16, 16), b(1, 0, 16))
	next(t, p, 2, 9, b(1, 16, 16)) // free ones alone, in this call
	next(t, p, 2, 2, b(0, 0, 16), b(0, 16, 16))
	next(t, p, 3, 3, b(1, 0, 16), b(1, 16, 16), b(0, 0, 16))
	next(t, p, 4, 9, b(0, 16, 16), b(1, 0, 16), b(1, 16, 16))
	next(t, p, 4, 9)
	cancel, whole, e := p.Here(3, b(0, 0, 16))
	if !slices.Equal(cancel, []api.Asked{{Peer: 1, Block: b(0, 0, 16)}, {Peer: 2, Block: b(0, 0, 16)}}) || whole || e != api.OK {
		t.Error(cancel, whole, e)
	}
	if _, _, e := p.Here(1, b(0, 0, 16)); e != api.ErrState {
		t.Error(e)
	}
	_, whole, _ = p.Here(1, b(0, 16, 16))
	if !whole || p.Done(0, false) != api.OK || p.Left() != 4 {
		t.Error("not good: all blocks are free again", p.Left())
	}
	if l, _ := p.Free(0); len(l) != 2 {
		t.Error(l)
	}
	if l, e := p.Leave(4); !slices.Equal(l, []api.Choice{b(1, 0, 16), b(1, 16, 16)}) || e != api.OK {
		t.Error(l)
	}
	p.Wish(0, api.Wish{})
	if !p.Ending() {
		t.Error("a piece that is not wanted does not count")
	}
}

// draws drives a picker by draws, and calls check behind each step.
func play(seed string, inorder bool, check func(p *Picker, n int, before *Picker, chosen []api.Choice)) {
	p, _ := New(12, 48, 20, seed, inorder)
	k := 0
	draw := func(n int) int {
		k++
		v, _ := hash.Draw(seed, k, n)
		return v
	}
	for range 500 {
		n, i := 1+draw(6), draw(12)
		before := p.Copy()
		var chosen []api.Choice
		switch draw(14) {
		case 0:
			p.Join(n)
		case 1:
			if draw(4) == 0 {
				p.Leave(n)
			}
		case 2, 3:
			p.Have(n, i)
		case 4:
			p.Lost(n, i)
		case 5:
			p.Choke(n, draw(3) == 0, draw(2) == 0)
		case 6:
			p.Allow(n, i)
			p.Suggest(n, draw(12))
		case 7:
			p.Wish(i, api.Wish{Level: draw(8), Due: draw(3) * draw(4)})
			p.Snub(n, draw(4) == 0)
		case 8:
			for _, c := range p.Asked(n) {
				if _, whole, _ := p.Here(n, c); whole {
					p.Done(c.Piece, draw(2) == 0)
				}
			}
		case 9:
			if l := p.Asked(n); len(l) > 0 {
				p.Reject(n, l[draw(len(l))])
			}
		case 10:
			if draw(5) == 0 {
				p.Set(i, draw(3) == 0)
			}
		default:
			chosen, _ = p.Next(n, draw(8))
		}
		check(p, n, before, chosen)
	}
}

func TestP292Once(t *testing.T) {
	for s := range 12 {
		play("once"+strconv.Itoa(s), s%2 == 0, func(p *Picker, n int, before *Picker, chosen []api.Choice) {
			for i, c := range chosen {
				x := before.peers.peers[n]
				y := before.blocks[at(c)]
				if y.here || before.pieces[c.Piece].had || slices.Contains(y.asked, n) || slices.Contains(chosen[:i], c) || !before.wanted(c.Piece) || !x.has[c.Piece] || x.chokes && !x.allowed[c.Piece] || len(y.asked) > 2 || len(y.asked) > 0 && !before.Ending() {
					t.Error("chosen", c)
				}
				if z := p.blocks[at(c)]; !slices.Contains(z.asked, n) || len(z.asked) != len(y.asked)+1 || len(z.asked) > 3 {
					t.Error("marked", c)
				}
			}
		})
	}
}

func TestP293Rarest(t *testing.T) {
	for s := range 12 {
		play("rare"+strconv.Itoa(s), false, func(p *Picker, n int, before *Picker, chosen []api.Choice) {
			if before.Ending() {
				return
			}
			for i := 1; i < len(chosen); i++ {
				a, b := chosen[i-1].Piece, chosen[i].Piece
				x := before.peers.peers[n]
				k, l := before.keysOf(x, a), before.keysOf(x, b)
				if a == b {
					continue
				}
				if slices.Compare(k[:], l[:]) >= 0 {
					t.Error("order", k, l)
				}
				if reflect.DeepEqual(k[:4], l[:4]) && before.counts[a] > before.counts[b] {
					t.Error("rarest first")
				}
			}
		})
	}
	p := made(t, 3, 16, 16, false)
	come(p, 1, 0, 1, 2)
	come(p, 2, 0, 2)
	come(p, 3, 2)
	next(t, p, 1, 3, b(1, 0, 16), b(0, 0, 16), b(2, 0, 16))
}

func TestP294Whole(t *testing.T) {
	for _, inorder := range []bool{true, false} {
		p := made(t, 40, 64, 3, inorder)
		p.Join(7)
		p.Has(7, full(40))
		p.Choke(7, false, false)
		p.Wish(3, api.Wish{})
		for range 200 {
			l, _ := p.Next(7, 3)
			for _, c := range l {
				if _, whole, e := p.Here(7, c); e != api.OK {
					t.Error(e)
				} else if whole {
					p.Done(c.Piece, true)
				}
			}
		}
		l, _ := bits.List(40, p.Had())
		if len(l) != 39 || slices.Contains(l, 3) || p.Left() != 0 || !p.Ending() {
			t.Error(len(l), p.Left())
		}
		if wants, _ := p.Interested(7); wants {
			t.Error("Interested")
		}
	}
	p := made(t, 2, 32, 32, false)
	come(p, 1, 0, 1)
	l, _ := p.Next(1, 3)
	if l[0].Piece != l[1].Piece || l[2].Piece == l[0].Piece || l[2].Begin != 0 {
		t.Error(l)
	}
}

func TestP295Kept(t *testing.T) {
	for s := range 12 {
		play("kept"+strconv.Itoa(s), s%2 == 0, func(p *Picker, n int, before *Picker, _ []api.Choice) {
			asked := map[place]int{}
			for m, x := range p.peers.peers {
				for _, c := range x.asked {
					asked[at(c)]++
					if !slices.Contains(p.blocks[at(c)].asked, m) {
						t.Error("asked", m, c)
					}
				}
			}
			for i := range p.n {
				free, _ := p.Free(i)
				here, busy := 0, 0
				for c := range p.all(i) {
					y, ok := p.blocks[at(c)]
					if ok {
						busy++
					}
					if y.here {
						here++
					}
					if len(y.asked) != asked[at(c)] || ok && (y.here == (len(y.asked) > 0)) || ok == slices.Contains(free, c) && !p.pieces[i].had {
						t.Error("block", c, y)
					}
				}
				if p.pieces[i].here != here || p.pieces[i].busy != busy || p.pieces[i].had && busy > 0 {
					t.Error("counts", i)
				}
				count := 0
				for _, x := range p.peers.peers {
					if x.has[i] {
						count++
					}
				}
				if c, _ := p.Count(i); c != count {
					t.Error("Count", c, count)
				}
			}
			if p.peers.peers[n] == nil && before.peers.peers[n] != nil && p.Asked(n) != nil {
				t.Error("left")
			}
		})
	}
}
