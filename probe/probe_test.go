package probe

import (
	"testing"

	"covey/api"
)

func made(t *testing.T, low, high int) *Search {
	t.Helper()
	s, e := New(low, high)
	if e != api.OK {
		t.Fatal(e)
	}
	return s
}

func next(t *testing.T, s *Search, now, size, number int) {
	t.Helper()
	if a, b, e := s.Next(now); a != size || b != number || e != api.OK {
		t.Error("Next", a, b, e)
	}
}

// chance is a row of losses that follows a short rule.
func chance(seed, n int) []bool {
	var l []bool
	x := uint64(seed)*2654435761 + 99
	for range n {
		x = x*6364136223846793005 + 1442695040888963407
		l = append(l, x>>60 < uint64(seed%16))
	}
	return l
}

func TestP271Errors(t *testing.T) {
	var none *Search
	if _, _, e := none.Next(0); e != api.ErrInvalid || none.Acked(0, 1) != api.ErrInvalid || none.Lost(0, 1, false) != api.ErrInvalid || none.Big(0, 1, 0) != api.ErrInvalid || none.Stuck(0) != api.ErrInvalid || none.Size() != 0 || none.State() != 0 || none.Sent() != 0 {
		t.Error(e)
	}
	for _, c := range [][2]int{{575, 1000}, {576, 9001}, {1000, 999}, {-1, -1}} {
		_, e1 := New(c[0], c[1])
		_, _, e2 := Find(c[0], c[1], 1000, nil)
		_, e3 := Steps(c[0], c[1])
		if e1 != api.ErrRange || e2 != e1 || e3 != e1 {
			t.Error(c, e1, e2, e3)
		}
	}
	for _, b := range []int{-1, 10001} {
		if _, _, e := Find(576, 1500, b, nil); e != api.ErrRange {
			t.Error(e)
		}
	}
	s := made(t, 576, 1500)
	next(t, s, 10, 1038, 1)
	for _, now := range []int{-1, 9, api.MaxTime + 1} {
		_, _, e := s.Next(now)
		if e != api.ErrRange || s.Acked(now, 1) != e || s.Lost(now, 1, true) != e || s.Big(now, 1, 0) != e || s.Stuck(now) != e {
			t.Error(now, e)
		}
	}
	if _, _, e := s.Next(10); e != api.ErrState {
		t.Error(e)
	}
	if s.Acked(10, 0) != api.ErrRange || s.Acked(10, 2) != api.ErrNone || s.Lost(10, 2, false) != api.ErrNone || s.Big(10, 1, -1) != api.ErrRange || s.Big(10, 2, 1) != api.ErrNone {
		t.Error("numbers")
	}
	if s.Acked(10, 1) != api.OK || s.Acked(10, 1) != api.ErrNone {
		t.Error("not under way")
	}
}

func TestProbing(t *testing.T) {
	s := made(t, 576, 1500)
	next(t, s, 0, 1038, 1)
	s.Acked(0, 1)
	next(t, s, 0, 1269, 2)
	s.Lost(0, 2, false)
	next(t, s, 0, 1269, 3)
	s.Lost(0, 3, true) // counts for nothing
	next(t, s, 0, 1269, 4)
	s.Lost(0, 4, false)
	if _, h := s.Range(); h != 1500 {
		t.Error("two are not three", h)
	}
	next(t, s, 0, 1269, 5)
	s.Lost(0, 5, false)
	if l, h := s.Range(); l != 1038 || h != 1268 {
		t.Error(l, h)
	}
	next(t, s, 0, 1153, 6)
	s.Big(0, 6, 1100)
	if l, h := s.Range(); l != 1038 || h != 1100 {
		t.Error(l, h)
	}
	next(t, s, 0, 1069, 7)
	s.Big(0, 7, 1069) // none from low to the size less 1
	if _, h := s.Range(); h != 1068 || s.State() != 0 {
		t.Error(h)
	}
	next(t, s, 5, 1053, 8)
	s.Acked(7, 8)
	if s.Size() != 1053 || s.State() != 2 || s.Sent() != 8 {
		t.Error(s.Size(), s.State())
	}
	if _, _, e := s.Next(600006); e != api.ErrNone {
		t.Error(e)
	}
	next(t, s, 600007, 1277, 9)
	if l, h := s.Range(); l != 1053 || h != 1500 || s.State() != 0 {
		t.Error(l, h)
	}
	s.Stuck(600008)
	if l, h := s.Range(); l != 576 || h != 1500 || s.Acked(600008, 9) != api.ErrNone {
		t.Error(l, h)
	}
	next(t, s, 600008, 1038, 10)
	s.Big(600008, 10, 0)
	if _, h := s.Range(); h != 1037 {
		t.Error(h)
	}
	// Losses of a size end when another size is asked.
	x := made(t, 576, 1500)
	next(t, x, 0, 1038, 1)
	x.Lost(0, 1, false)
	next(t, x, 0, 1038, 2)
	x.Lost(0, 2, false)
	next(t, x, 0, 1038, 3)
	x.Acked(0, 3)
	for k := range 2 {
		next(t, x, 0, 1269, 4+k)
		x.Lost(0, 4+k, false)
	}
	if _, h := x.Range(); h != 1500 {
		t.Error(h)
	}
	// One that has found at the beginning rests from the time 0 on.
	y := made(t, 1000, 1015)
	if _, _, e := y.Next(599999); e != api.ErrNone || y.State() != 2 {
		t.Error(e)
	}
	y.Stuck(599999)
	next(t, y, 599999, 796, 1)
	z := made(t, 576, 590)
	if _, _, e := z.Next(600000); e != api.ErrNone || z.State() != 2 {
		t.Error("rests again", e)
	}
	if _, _, e := z.Next(1199999); e != api.ErrNone {
		t.Error(e)
	}
	if z.Stuck(1200001) != api.OK || z.State() != 2 {
		t.Error(z.State())
	}
	// State 1 is told when the time of rest is over, as of the last time told.
	w := made(t, 600, 601)
	w.now = 600000
	if w.State() != 1 {
		t.Error(w.State())
	}
}

func TestP272Bound(t *testing.T) {
	for _, r := range [][2]int{{576, 576}, {576, 592}, {576, 1500}, {1400, 9000}, {576, 9000}} {
		most, _ := Steps(r[0], r[1])
		for bound := 0; bound <= 10000; bound += 7 {
			size, sent, e := Find(r[0], r[1], bound, nil)
			low := max(r[0], min(bound, r[1])-15)
			if e != api.OK || size > max(bound, r[0]) || size < low || sent > most {
				t.Error(r, bound, size, sent, e)
			}
		}
	}
	if size, _, _ := Find(576, 1500, 1400, nil); size < 1385 || size > 1400 {
		t.Error(size)
	}
	if size, sent, _ := Find(1000, 9000, 5, nil); size != 1000 || sent == 0 {
		t.Error(size, sent)
	}
}

func TestP273Chance(t *testing.T) {
	for seed := range 60 {
		for bound := 0; bound <= 10000; bound += 211 {
			size, _, e := Find(576, 9000, bound, chance(seed, 200))
			if e != api.OK || size > max(bound, 576) {
				t.Error(seed, bound, size, e)
			}
		}
	}
}

func TestP274Range(t *testing.T) {
	for seed := range 40 {
		s := made(t, 600, 8000)
		lost := chance(seed, 100)
		for k, c := range lost {
			low, high := s.Range()
			size, number, e := s.Next(k * 10)
			if e != api.OK {
				break
			}
			switch {
			case c:
				s.Lost(k*10, number, k%3 == 0)
			case k%5 == 0:
				s.Big(k*10, number, size-k)
			default:
				s.Acked(k*10, number)
			}
			if l, h := s.Range(); l < low || h > high || l > h {
				t.Error(l, h)
			}
		}
	}
}

func TestP275Steps(t *testing.T) {
	for _, r := range [][2]int{{576, 576}, {576, 591}, {576, 592}, {600, 700}, {576, 1500}} {
		most, e := Steps(r[0], r[1])
		worst := 0
		for bound := range 10001 {
			_, sent, _ := Find(r[0], r[1], bound, nil)
			worst = max(worst, sent)
		}
		if worst != most || e != api.OK {
			t.Error(r, worst, most, e)
		}
	}
}
