package token

import (
	"slices"
	"strconv"
	"strings"
	"testing"

	"covey/addr"
	"covey/api"
	"covey/hash"
)

func at(n, port int) api.Addr {
	a, _ := addr.V4(10, 0, 0, n, port)
	return a
}

func made(period, most int) *Keeper {
	k, e := New("seed", period, most)
	if e != api.OK {
		panic(e)
	}
	return k
}

func right(k *Keeper, now int, a api.Addr, token string) bool {
	ok, e := k.Right(now, a, token)
	return ok && e == api.OK
}

func TestP141Errors(t *testing.T) {
	var none *Keeper
	a := at(1, 1)
	long := strings.Repeat("x", 101)
	if _, e := none.Give(0, a); e != api.ErrInvalid || none.Count() != 0 || none.Change(0, "") != api.ErrInvalid || none.Take(0, a, "") != api.ErrInvalid {
		t.Error(e)
	}
	if _, e := New(long, 0, 0); e != api.ErrInvalid {
		t.Error(e)
	}
	for _, c := range [][2]int{{999, 0}, {10000001, 0}, {1000, -1}, {1000, 1001}} {
		if _, e := New("", c[0], c[1]); e != api.ErrRange {
			t.Error(c, e)
		}
	}
	k := made(1000, 0)
	k.Give(10, a)
	if k.Change(-1, long) != api.ErrInvalid || k.Take(-1, api.Addr{}, "") != api.ErrInvalid {
		t.Error("ErrInvalid first")
	}
	for _, now := range []int{-1, 9, api.MaxTime + 1} {
		_, e1 := k.Give(now, a)
		_, e2 := k.Right(now, a, "")
		_, e3 := k.Taken(now, a)
		_, e4 := k.Until(now, a, "")
		_, e5 := k.Secrets(now)
		for i, e := range []api.Errno{e1, e2, e3, e4, e5, k.Take(now, a, ""), k.Change(now, "")} {
			if e != api.ErrRange {
				t.Error(now, i, e)
			}
		}
	}
	if _, e := k.Until(20, a, "x"); e != api.ErrToken {
		t.Error(e)
	}
	if e := k.Take(20, a, "x"); e != api.ErrToken || k.Count() != 0 {
		t.Error(e)
	}
	if _, e := k.Give(11, a); e != api.OK {
		t.Error("the time of an error does not count", e)
	}
}

func TestP142Holds(t *testing.T) {
	for _, period := range []int{1000, 7777} {
		for _, now := range []int{0, 500, period - 1, period, 5*period + 3} {
			k := made(period, 0)
			a := at(3, 5)
			token, e := k.Give(now, a)
			p := now / period
			if want := hash.Sum(hash.Sum("seed/"+strconv.Itoa(p)) + "\x0a\x00\x00\x03\x04")[:8]; token != want || e != api.OK {
				t.Error("Give", now, e)
			}
			last := (p+2)*period - 1
			if u, e := k.Until(now, a, token); u != last || e != api.OK {
				t.Error("Until", u, last, e)
			}
			for _, at := range []int{now, (p+1)*period - 1, (p + 1) * period, last} {
				if !right(k, at, a, token) {
					t.Error("holds", now, at)
				}
				if u, e := k.Until(at, a, token); u != last || e != api.OK {
					t.Error("Until", u, last, e)
				}
			}
			if right(k, last+1, a, token) {
				t.Error("ends", now)
			}
		}
	}
}

func TestP143Ends(t *testing.T) {
	k := made(1000, 0)
	a := at(1, 1)
	token, _ := k.Give(500, a)
	if !right(k, 1999, a, token) || right(k, 2000, a, token) || right(k, 2000, a, "") {
		t.Error("ends")
	}
	// Changes of the seed.
	k = made(1000, 0)
	early, _ := k.Give(500, a)
	first, _ := k.Give(1500, a)
	k.Change(1600, "two")
	second, _ := k.Give(1600, a)
	if right(k, 1600, a, early) || !right(k, 1600, a, first) || !right(k, 1999, a, second) || second == first {
		t.Error("behind a Change")
	}
	if u, e := k.Until(1999, a, first); u != 1999 || e != api.OK {
		t.Error(u, e)
	}
	if u, e := k.Until(1999, a, second); u != 2999 || e != api.OK {
		t.Error(u, e)
	}
	k.Change(1999, "three")
	if right(k, 1999, a, first) || !right(k, 1999, a, second) {
		t.Error("behind two")
	}
	s, _ := k.Secrets(1999)
	if !slices.Equal(s, []string{hash.Sum("three/1"), hash.Sum("two/1")}) {
		t.Error("Secrets")
	}
	s, _ = k.Secrets(2000)
	if !slices.Equal(s, []string{hash.Sum("three/2"), hash.Sum("three/1")}) || right(k, 2000, a, second) {
		t.Error("Secrets")
	}
	s, _ = made(1000, 0).Secrets(999)
	if !slices.Equal(s, []string{hash.Sum("seed/0")}) {
		t.Error("no period before the first one")
	}
}

func TestP144Most(t *testing.T) {
	k := made(1000, 3)
	a, b := at(1, 1), at(2, 1)
	for i := range 5 {
		token, _ := k.Give(100+i, at(1, 7+i))
		want := api.OK
		if i >= 3 {
			want = api.ErrFull
		}
		if e := k.Take(100+i, at(1, 9+i), token); e != want {
			t.Error(i, e)
		}
		if n, e := k.Taken(100+i, a); n != min(i+1, 3) || e != api.OK {
			t.Error(n, e)
		}
	}
	token, _ := k.Give(200, b)
	k.Take(200, b, token)
	if k.Count() != 2 {
		t.Error(k.Count())
	}
	if e := k.Take(200, a, "bad"); e != api.ErrToken {
		t.Error("a wrong token comes first", e)
	}
	old, _ := k.Give(999, a)
	if e := k.Take(1000, a, old); e != api.OK || k.Count() != 1 {
		t.Error("the next period", e, k.Count())
	}
	if n, _ := k.Taken(2000, a); n != 0 || k.Count() != 0 {
		t.Error(n)
	}
	free := made(1000, 0)
	token, _ = free.Give(0, a)
	for range 2000 {
		if e := free.Take(0, a, token); e != api.OK {
			t.Fatal(e)
		}
	}
}

func TestP145Port(t *testing.T) {
	k := made(1000, 0)
	x, _ := k.Give(0, at(1, 1))
	y, _ := k.Give(0, at(1, 65535))
	z, _ := k.Give(0, at(2, 1))
	if x != y || x == z || len(x) != 8 {
		t.Error("ports")
	}
	six := api.Addr{Family: 6, IP: strings.Repeat("a", 16), Port: 1}
	u, e := k.Give(0, six)
	if u != hash.Sum(hash.Sum("seed/0") + six.IP + "\x06")[:8] || e != api.OK {
		t.Error(e)
	}
}
