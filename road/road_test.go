package road

import (
	"reflect"
	"testing"

	"covey/api"
)

// draws are numbers that follow a short rule.
func draws(seed, n int) []int {
	var l []int
	x := uint64(seed)*2654435761 + 12345
	for range n {
		x = x*6364136223846793005 + 1442695040888963407
		l = append(l, int(x>>33)%1000000000)
	}
	return l
}

func pipe(delay, rate, room int) api.Pipe { return api.Pipe{Delay: delay, Rate: rate, Room: room} }

func courseOf(l ...api.Rider) api.Course {
	return api.Course{Forth: pipe(20, 100000, 100000), Back: pipe(20, 100000, 100000), Riders: l}
}

func TestP281Errors(t *testing.T) {
	good := courseOf(api.Rider{Kind: 1, Size: 10, Conn: 1}, api.Rider{Kind: 2, Size: 10, Conn: 2})
	for k, f := range []func(r *api.Course){
		func(r *api.Course) { r.Forth.Rate = 0 }, func(r *api.Course) { r.Back.Rate = 0 }, func(r *api.Course) { r.Numbers = []int{-1} }, func(r *api.Course) { r.Return = make([]int, 1001) }, func(r *api.Course) { r.Riders = make([]api.Rider, 9) },
		func(r *api.Course) { r.Riders = []api.Rider{{Kind: 0}} }, func(r *api.Course) { r.Riders = []api.Rider{{Kind: 3}} }, func(r *api.Course) { r.Riders = []api.Rider{{Kind: 1, Begin: -1}} }, func(r *api.Course) { r.Riders = []api.Rider{{Kind: 1, Begin: 100001}} },
		func(r *api.Course) { r.Riders = []api.Rider{{Kind: 1, Size: 100001}} }, func(r *api.Course) { r.Riders = []api.Rider{{Kind: 1, Conn: 65536}} }, func(r *api.Course) { r.Riders = []api.Rider{{Kind: 1, Conn: 5}, {Kind: 1, Conn: 5}} },
	} {
		r := good
		f(&r)
		_, e1 := Run(r, -1)
		_, e2 := Shares(r, -1, -1)
		_, e3 := Longest(r, -1)
		if Valid(r) || e1 != api.ErrInvalid || e2 != e1 || e3 != e1 {
			t.Error(k, e1, e2, e3)
		}
	}
	for _, until := range []int{-1, 200001} {
		_, e1 := Run(good, until)
		_, e2 := Shares(good, 0, until)
		_, e3 := Longest(good, until)
		_, e4 := Alone(good.Forth, good.Back, 1, 10, until)
		if e1 != api.ErrRange || e2 != e1 || e3 != e1 || e4 != e1 {
			t.Error(until, e1, e2, e3, e4)
		}
	}
	if _, e := Shares(good, 6, 5); e != api.ErrRange {
		t.Error(e)
	}
	if l, e := Shares(good, 5, 5); !reflect.DeepEqual(l, []int{0, 0}) || e != api.OK {
		t.Error(l, e)
	}
	for k, c := range []struct{ kind, size int }{{0, 1}, {3, 1}, {1, -1}, {2, 100001}} {
		if _, e := Alone(good.Forth, good.Back, c.kind, c.size, 10); e != api.ErrInvalid {
			t.Error(k, e)
		}
	}
	if a, e := Run(api.Course{Forth: good.Forth, Back: good.Back}, 10); a.Time != 0 || len(a.Done) != 0 || e != api.OK {
		t.Error(a, e)
	}
	if a, e := Run(good, 0); a.Time != 0 || a.Done[0] != -1 || e != api.OK {
		t.Error(a, e)
	}
}

func TestP282Once(t *testing.T) {
	for seed := range 6 {
		r := courseOf(api.Rider{Kind: 1, Size: 30000, Conn: 9}, api.Rider{Kind: 2, Begin: 100 * seed, Size: 20000, Conn: 700})
		r.Forth.Loss, r.Back.Loss = 10+seed, 5*seed
		r.Forth.Double, r.Forth.Jitter, r.Back.Jitter = 20, 30, 10*seed
		r.Forth.Room = 20000
		r.Numbers, r.Return = draws(seed, 800), draws(seed+9, 800)
		a, e := Run(r, 60000)
		if e != api.OK || !a.Right[0] || !a.Right[1] || a.Read[0] > 30000 || a.Read[1] > 20000 {
			t.Error(seed, a, e)
		}
		if a.Read[0] == 0 || a.Read[1] == 0 {
			t.Error("nothing was read", a)
		}
	}
}

func TestP283Done(t *testing.T) {
	if n, e := Alone(pipe(5, 10000, 100000), pipe(5, 10000, 100000), 1, 1000, 1000); n < 0 || n > 1000 || e != api.OK {
		t.Error(n, e)
	}
	for _, kind := range []int{1, 2} {
		for _, size := range []int{0, 1, 1400, 1401, 50000, 100000} {
			for _, c := range [][2]int{{0, 1000000}, {200, 5000}, {50, 100000}} {
				p := pipe(c[0], c[1], 1000000)
				n, e := Alone(p, p, kind, size, 150000)
				if n < 0 || e != api.OK {
					t.Error(kind, size, c, n, e)
				}
				if n < 4*c[0] || n < size*1000/c[1] {
					t.Error("too fast", kind, size, c, n)
				}
				if m, _ := Alone(p, p, kind, size, n); m != -1 {
					t.Error("not before", m)
				}
				if m, _ := Alone(p, p, kind, size, n+1); m != n {
					t.Error(m, n)
				}
			}
		}
	}
}

func TestP284Alike(t *testing.T) {
	r := courseOf(api.Rider{Kind: 1, Size: 60000, Conn: 1}, api.Rider{Kind: 2, Begin: 300, Size: 60000, Conn: 2}, api.Rider{Kind: 1, Begin: 5000, Conn: 3})
	r.Forth.Loss, r.Forth.Room = 5, 10000
	r.Numbers = draws(1, 500)
	last := []int{0, 0, 0}
	for _, until := range []int{100, 500, 1000, 3000, 20000} {
		a, e := Run(r, until)
		b, _ := Run(r, until)
		if !reflect.DeepEqual(a, b) || e != api.OK {
			t.Error(until, e)
		}
		sum := []int{0, 0, 0}
		for _, part := range [][2]int{{0, until / 3}, {until / 3, until / 2}, {until / 2, until}} {
			s, e := Shares(r, part[0], part[1])
			for i := range s {
				sum[i] += s[i]
			}
			if e != api.OK {
				t.Error(e)
			}
		}
		for i := range last {
			if a.Read[i] < last[i] || sum[i] != a.Read[i] {
				t.Error("read", until, i, a.Read[i], last[i], sum[i])
			}
		}
		last = a.Read
		if q, e := Longest(r, until); q > 10000 || q == 0 && until > 500 || e != api.OK {
			t.Error("Longest", q, e)
		}
	}
	if a, _ := Run(r, 50000); a.Done[2] < 5000 || a.Time != max(a.Done[0], a.Done[1], a.Done[2]) || a.Dropped == 0 {
		t.Error(a)
	}
}

func TestP285Alone(t *testing.T) {
	for _, kind := range []int{1, 2} {
		forth, back := pipe(30, 50000, 5000), pipe(10, 20000, 5000)
		n, _ := Alone(forth, back, kind, 40000, 100000)
		a, _ := Run(api.Course{Forth: forth, Back: back, Riders: []api.Rider{{Kind: kind, Size: 40000, Conn: 77}}}, 100000)
		if a.Done[0] != n || a.Time != n || a.Read[0] != 40000 || n < 0 {
			t.Error(kind, n, a)
		}
	}
}

func TestYields(t *testing.T) {
	// Beside an ordinary flow the yielding one gets less.
	r := api.Course{Forth: pipe(20, 50000, 200000), Back: pipe(20, 100000, 100000), Riders: []api.Rider{{Kind: 1, Size: 100000, Conn: 1}, {Kind: 2, Begin: 0, Size: 100000, Conn: 2}}}
	s, e := Shares(r, 500, 2500)
	if s[0] >= s[1] || e != api.OK {
		t.Error(s, e)
	}
}
