package blame

import (
	"slices"
	"strconv"
	"strings"
	"testing"

	"covey/api"
	"covey/hash"
)

func at(piece, k int) api.Choice { return api.Choice{Piece: piece, Begin: 16 * k, Length: 16} }

func data(s string) string { return (s + strings.Repeat(".", 16))[:16] }

func send(t *testing.T, b *Blame, peer, piece, k int, s string) {
	t.Helper()
	if e := b.Sent(peer, at(piece, k), data(s)); e != api.OK {
		t.Error("Sent", peer, piece, k, e)
	}
}

func fail(t *testing.T, b *Blame, piece int, want ...int) {
	t.Helper()
	if l, e := b.Fail(piece); !slices.Equal(l, want) || e != api.OK {
		t.Error("Fail", l, want, e)
	}
}

func good(t *testing.T, b *Blame, piece int, want ...int) {
	t.Helper()
	if l, e := b.Good(piece); !slices.Equal(l, want) || e != api.OK {
		t.Error("Good", l, want, e)
	}
}

func TestP341Errors(t *testing.T) {
	var none *Blame
	if none.Sent(1, at(0, 0), data("")) != api.ErrInvalid || none.Drop(0) != api.ErrInvalid || none.Banned(1) || none.Parole(1) || none.Score(1) != 0 || none.Bans() != nil || none.Senders(0) != nil || none.Tries(0) != 0 || none.May(1, 0) || none.Copy() != nil {
		t.Error("nil")
	}
	if _, e := none.Fail(0); e != api.ErrInvalid {
		t.Error(e)
	}
	b := New()
	for k, c := range []struct {
		peer int
		c    api.Choice
		data string
		e    api.Errno
	}{
		{0, at(0, 0), "", api.ErrRange}, {1001, at(0, 0), "", api.ErrRange}, {1, at(-1, 0), "", api.ErrRange}, {1, at(4096, 0), "", api.ErrRange}, {1, api.Choice{Begin: -1, Length: 1}, "", api.ErrRange}, {1, api.Choice{Length: 0}, "", api.ErrRange},
		{1, api.Choice{Begin: 1000, Length: 25}, "", api.ErrRange}, {1, api.Choice{Begin: 1 << 62, Length: 1 << 62}, "", api.ErrRange}, {1, at(0, 0), "x", api.ErrSize}, {1, api.Choice{Begin: 1023, Length: 1}, "x", api.OK}, {1, api.Choice{Begin: 0, Length: 1024}, strings.Repeat("x", 1024), api.OK},
		{2, api.Choice{Begin: 0, Length: 3}, "xyz", api.ErrDuplicate},
	} {
		if e := b.Sent(c.peer, c.c, c.data); e != c.e {
			t.Error(k, e)
		}
		if _, e := b.Proved(c.peer, c.c, true); c.e == api.ErrRange && e != c.e {
			t.Error(k, e)
		}
	}
	for piece, want := range map[int]api.Errno{-1: api.ErrRange, 4096: api.ErrRange, 7: api.ErrNone} {
		_, e1 := b.Fail(piece)
		_, e2 := b.Good(piece)
		if e1 != want || e2 != want || b.Drop(piece) != want || b.Senders(piece) != nil || b.May(1, piece) != (piece == 7) {
			t.Error(piece, e1, e2)
		}
	}
	if b.Drop(0) != api.OK || b.Drop(0) != api.ErrNone {
		t.Error("Drop")
	}
	send(t, b, 1, 3, 0, "a")
	for k, c := range []struct {
		peer int
		c    api.Choice
		e    api.Errno
	}{{2, at(3, 0), api.ErrNone}, {1, at(3, 1), api.ErrNone}, {1, api.Choice{Piece: 3, Length: 15}, api.ErrNone}, {1, at(3, 0), api.OK}} {
		if _, e := b.Proved(c.peer, c.c, true); e != c.e {
			t.Error(k, e)
		}
	}
}

func TestJudged(t *testing.T) {
	b := New()
	send(t, b, 1, 5, 0, "right")
	send(t, b, 2, 5, 1, "wrong")
	if !slices.Equal(b.Senders(5), []int{1, 2}) {
		t.Error(b.Senders(5))
	}
	fail(t, b, 5)
	if !b.Parole(1) || !b.Parole(2) || b.Parole(3) || b.Score(1) != 1 || b.Tries(5) != 1 || b.Senders(5) != nil {
		t.Error("parole")
	}
	if !b.May(1, 5) || !b.May(3, 5) {
		t.Error("nobody else has sent a block")
	}
	send(t, b, 3, 5, 0, "right")
	if b.May(1, 5) || !b.May(3, 5) || !b.May(4, 5) || !b.May(1, 6) {
		t.Error("on parole only if nobody else has")
	}
	c := b.Copy()
	send(t, b, 3, 5, 1, "other")
	good(t, b, 5, 2)
	if b.Parole(1) || b.Parole(2) || !b.Banned(2) || b.Banned(1) || b.Score(1) != 0 || b.Score(2) != 1 || b.Tries(5) != 0 || b.May(2, 5) || !slices.Equal(b.Bans(), []int{2}) {
		t.Error("judged")
	}
	if e := b.Sent(2, at(9, 0), data("")); e != api.ErrRefused {
		t.Error(e)
	}
	if c.Banned(2) || !c.Parole(2) || len(c.Senders(5)) != 1 {
		t.Error("a copy is one of its own")
	}
	// One that is not on parole may not be asked where one on parole has sent.
	d := New()
	send(t, d, 1, 0, 0, "a")
	send(t, d, 2, 0, 1, "b")
	fail(t, d, 0)
	send(t, d, 1, 1, 0, "c")
	if d.May(3, 1) || d.May(2, 1) || !d.May(1, 1) {
		t.Error("May")
	}
	// A block that the good try does not have is not judged.
	send(t, d, 4, 0, 2, "z")
	good(t, d, 0)
	if d.Score(1) != 0 || d.Score(2) != 0 {
		t.Error("scores")
	}
	// Judged by a tree.
	send(t, d, 5, 2, 0, "x")
	if banned, e := d.Proved(5, at(2, 0), false); !banned || e != api.OK || !d.Banned(5) || len(d.Senders(2)) != 0 {
		t.Error("Proved", e)
	}
	d.Drop(1)
	// More than 10 old tries: the oldest go, and count as judged for nobody.
	e := New()
	for k := range 12 {
		send(t, e, 10+k, 0, 0, "x"+strconv.Itoa(k))
		send(t, e, 50, 0, 1, "y")
		fail(t, e, 0)
	}
	if e.Tries(0) != 10 || e.Parole(10) || e.Parole(11) || !e.Parole(12) || e.Score(10) != 1 || e.Score(50) != 12 {
		t.Error(e.Tries(0), e.Score(50))
	}
	send(t, e, 60, 0, 0, "right")
	send(t, e, 60, 0, 1, "y")
	good(t, e, 0, 12, 13, 14, 15, 16, 17, 18, 19, 20, 21)
	if e.Score(50) != 2 || e.Banned(50) || e.Banned(10) {
		t.Error(e.Score(50))
	}
}

// The score of one that sent all blocks of a try that failed stays when the piece is good; by tries with others it goes down.
func TestP341ScoreOfOneAlone(t *testing.T) {
	b := New()
	send(t, b, 1, 0, 0, "right")
	send(t, b, 2, 0, 1, "wrong")
	fail(t, b, 0)
	send(t, b, 1, 0, 0, "right")
	send(t, b, 1, 0, 1, "right")
	fail(t, b, 0, 1)
	send(t, b, 3, 0, 1, "wrong")
	fail(t, b, 0, 3)
	if b.Score(1) != 2 || b.Score(2) != 1 || b.Score(3) != 1 {
		t.Error("failed", b.Score(1), b.Score(2), b.Score(3))
	}
	send(t, b, 4, 0, 0, "right")
	send(t, b, 4, 0, 1, "right")
	good(t, b, 0, 2)
	if b.Score(1) != 1 || b.Score(2) != 1 || b.Score(3) != 1 || b.Score(4) != 0 {
		t.Error("good", b.Score(1), b.Score(2), b.Score(3), b.Score(4))
	}
}

// A block that a tree proved wrong is taken out of its try: what its sender sent besides is judged by itself.
func TestP342ScoreOfOneProvedWrong(t *testing.T) {
	b := New()
	send(t, b, 1, 0, 0, "wrong")
	send(t, b, 1, 0, 1, "right")
	send(t, b, 2, 0, 2, "wrong")
	if banned, e := b.Proved(1, at(0, 0), false); !banned || e != api.OK {
		t.Error(banned, e)
	}
	fail(t, b, 0)
	for k := range 3 {
		send(t, b, 3, 0, k, "right")
	}
	good(t, b, 0, 2)
	if b.Score(1) != 0 || b.Score(2) != 1 {
		t.Error(b.Score(1), b.Score(2))
	}
}

// play lets peers send blocks of pieces, some of which spoil; it calls check behind each step.
func play(seed string, spoils func(peer int) bool, check func(b *Blame, wrong map[int]bool)) *Blame {
	b := New()
	k := 0
	draw := func(n int) int {
		k++
		v, _ := hash.Draw(seed, k, n)
		return v
	}
	wrong := map[int]bool{}
	for range 400 {
		piece := draw(4)
		bad := map[int]bool{}
		senders := 0
		for block := range 3 {
			peer := 1 + draw(8)
			for tries := 0; tries < 20 && (!b.May(peer, piece) || b.Banned(peer)); tries++ {
				peer = 1 + draw(8)
			}
			s := "right" + strconv.Itoa(block)
			spoilt := spoils(peer) && draw(3) == 0
			if spoilt {
				s = "wrong" + strconv.Itoa(draw(3))
			}
			if b.Sent(peer, at(piece, block), data(s)) == api.OK {
				senders++
				if spoilt {
					bad[peer] = true
				}
			}
		}
		if senders < 3 {
			b.Drop(piece)
			continue
		}
		if len(bad) > 0 {
			b.Fail(piece)
			for p := range bad {
				wrong[p] = true
			}
		} else {
			b.Good(piece)
		}
		check(b, wrong)
	}
	return b
}

func TestP342Never(t *testing.T) {
	for s := range 10 {
		play("never"+strconv.Itoa(s), func(peer int) bool { return peer > 5 }, func(b *Blame, _ map[int]bool) {
			for p := 1; p <= 5; p++ {
				if b.Banned(p) {
					t.Error("an honest one", p)
				}
			}
		})
	}
}

func TestP343AtLast(t *testing.T) {
	b := New()
	for k := range 9 {
		send(t, b, 1, 0, 0, "right")
		send(t, b, 2+k, 0, 1, "wrong"+strconv.Itoa(k))
		fail(t, b, 0)
	}
	send(t, b, 1, 0, 0, "right")
	send(t, b, 100, 0, 1, "right")
	good(t, b, 0, 2, 3, 4, 5, 6, 7, 8, 9, 10)
	for s := range 10 {
		b := play("last"+strconv.Itoa(s), func(peer int) bool { return peer > 5 }, func(b *Blame, wrong map[int]bool) {
			for p := range wrong {
				if !b.Banned(p) && !b.Parole(p) {
					t.Error("neither banned nor on parole", p)
				}
			}
		})
		if len(b.Bans()) != 3 {
			t.Error(b.Bans())
		}
	}
}

func TestP344Alone(t *testing.T) {
	b := New()
	send(t, b, 1, 0, 0, "a")
	send(t, b, 2, 0, 1, "b")
	fail(t, b, 0)
	send(t, b, 1, 1, 0, "c")
	send(t, b, 1, 1, 1, "d")
	good(t, b, 1)
	if !b.Parole(1) {
		t.Error("cleared of nothing")
	}
	send(t, b, 1, 1, 0, "c")
	fail(t, b, 1, 1)
	if b.Parole(1) || !b.Banned(1) || !b.Parole(2) {
		t.Error("banned if it fails")
	}
}

func TestP345Kept(t *testing.T) {
	var last []int
	play("kept", func(int) bool { return true }, func(b *Blame, _ map[int]bool) {
		now := b.Bans()
		for _, p := range last {
			if !slices.Contains(now, p) {
				t.Error("bans only grow")
			}
		}
		last = now
	})
	if len(last) == 0 {
		t.Error("nobody")
	}
}
