package link

import (
	"math"
	"slices"
	"strconv"
	"strings"
	"testing"

	"covey/api"
)

func made(t *testing.T, p api.Pipe, numbers ...int) *Link {
	t.Helper()
	l, e := New(p, numbers)
	if e != api.OK {
		t.Fatal(e)
	}
	return l
}

// draws are numbers that follow a short rule.
func draws(seed, n int) []int {
	var l []int
	x := uint64(seed)*2654435761 + 12345
	for range n {
		x = x*6364136223846793005 + 1442695040888963407
		l = append(l, int(x>>33)%1000000000)
	}
	return l
}

func TestP241Errors(t *testing.T) {
	var none *Link
	good := api.Pipe{Rate: 1000, Room: 1000}
	if _, _, e := none.Put(0, 1, ""); e != api.ErrInvalid || none.Under() != 0 || none.Now() != 0 || none.Text() != "" || none.Set(good) != api.ErrInvalid {
		t.Error(e)
	}
	if _, e := none.Next(); e != api.ErrInvalid {
		t.Error(e)
	}
	for k, f := range []func(p *api.Pipe){
		func(p *api.Pipe) { p.Delay = -1 }, func(p *api.Pipe) { p.Delay = 10001 }, func(p *api.Pipe) { p.Rate = 0 }, func(p *api.Pipe) { p.Rate = 1000001 }, func(p *api.Pipe) { p.Room = -1 }, func(p *api.Pipe) { p.Room = 1000001 },
		func(p *api.Pipe) { p.Loss = 101 }, func(p *api.Pipe) { p.Double = -1 }, func(p *api.Pipe) { p.Jitter = 1001 },
	} {
		p := good
		f(&p)
		_, e := New(p, nil)
		_, g := Gone(p, -1)
		if Valid(p) || e != api.ErrInvalid || g != api.ErrInvalid || made(t, good).Set(p) != api.ErrInvalid {
			t.Error(k, e, g)
		}
	}
	for _, n := range [][]int{{-1}, {1000000000}, make([]int, 1001)} {
		if _, e := New(good, n); e != api.ErrInvalid {
			t.Error(e)
		}
	}
	l := made(t, good)
	l.Put(10, 1, "")
	for _, now := range []int{-1, 9, api.MaxTime + 1, math.MinInt} {
		_, _, e1 := l.Put(now, 1, "")
		_, e2 := l.Take(now)
		_, e3 := l.Queue(now)
		_, e4 := l.Wait(now)
		if e1 != api.ErrRange || e2 != e1 || e3 != e1 || e4 != e1 {
			t.Error(now, e1, e2, e3, e4)
		}
	}
	for _, size := range []int{-1, 100001, math.MaxInt} {
		if _, _, e := l.Put(20, size, ""); e != api.ErrRange || l.Now() != 10 {
			t.Error(e)
		}
		if _, e := Gone(good, size); e != api.ErrRange {
			t.Error(e)
		}
	}
	if _, _, e := l.Put(-1, -1, strings.Repeat("x", api.MaxText+1)); e != api.ErrInvalid {
		t.Error(e)
	}
	for size, want := range map[int]int{0: 0, 1: 1, 2: 2, 1001: 1001} {
		if n, e := Gone(good, size); n != want || e != api.OK {
			t.Error(size, n)
		}
	}
	if n, _ := Gone(api.Pipe{Rate: 1000000}, 1); n != 1 {
		t.Error(n)
	}
	if n, _ := Gone(api.Pipe{Rate: 3000}, 10); n != 4 {
		t.Error(n)
	}
	full := made(t, api.Pipe{Rate: 1000000, Delay: 100})
	for range 10000 {
		full.Put(0, 0, "")
	}
	if id, dropped, e := full.Put(5, 0, ""); id != 0 || dropped || e != api.ErrLimit || full.Now() != 0 {
		t.Error(e)
	}
}

func TestP242Order(t *testing.T) {
	l := made(t, api.Pipe{Rate: 1000, Delay: 10, Room: 1000})
	for k := range 5 {
		if id, dropped, e := l.Put(0, 100, strconv.Itoa(k)); id != k+1 || dropped || e != api.OK {
			t.Error(id, e)
		}
	}
	if n, e := l.Next(); n != 110 || e != api.OK {
		t.Error(n, e)
	}
	if n, _ := l.Queue(0); n != 400 {
		t.Error(n)
	}
	if n, _ := l.Wait(0); n != 500 {
		t.Error(n)
	}
	if n, _ := l.Queue(100); n != 300 {
		t.Error(n)
	}
	p, e := l.Take(210)
	if len(p) != 2 || p[0] != (api.Parcel{ID: 1, Size: 100, Time: 110, Body: "0"}) || p[1] != (api.Parcel{ID: 2, Size: 100, Begun: 100, Time: 210, Body: "1"}) || e != api.OK {
		t.Error(p, e)
	}
	for seed := range 5 {
		l := made(t, api.Pipe{Rate: 777, Delay: 20, Room: 400, Loss: 30}, draws(seed, 100)...)
		last, now := 0, 0
		for _, n := range draws(seed+50, 200) {
			now += n % 300
			l.Put(now, n%150, "")
			p, _ := l.Take(now)
			for _, x := range p {
				if x.ID <= last {
					t.Error("order", x.ID, last)
				}
				last = x.ID
			}
		}
	}
}

// put is a packet of the model.
type put struct{ at, size, begun, gone int }

func TestModel(t *testing.T) {
	for seed := range 30 {
		p := api.Pipe{Rate: 500 + seed*40, Delay: seed * 3, Room: 300, Loss: seed, Double: 2 * seed, Jitter: seed % 7}
		numbers := draws(seed, 40)
		l := made(t, p, numbers...)
		var puts []put
		var want []api.Parcel
		var got []api.Parcel
		free, now, used, lost, dropped, doubled := 0, 0, 0, 0, 0, 0
		for _, n := range draws(seed+99, 80) {
			now += n % 200
			size := n / 1000 % 180
			queue := 0
			for _, x := range puts {
				if x.begun > now {
					queue += x.size
				}
			}
			if q, e := l.Queue(now); q != queue || e != api.OK || q > p.Room {
				t.Error("queue", q, queue)
			}
			begun := max(now, free)
			id, d, e := l.Put(now, size, strconv.Itoa(size))
			if e != api.OK {
				t.Error(e)
			}
			if begun > now && queue+size > p.Room {
				if dropped++; !d || id != 0 {
					t.Error("dropped")
				}
				continue
			}
			k := 0
			if used < len(numbers) {
				k = numbers[used]
			}
			used++
			free = begun + int(math.Ceil(float64(size)*1000/float64(p.Rate)))
			puts = append(puts, put{now, size, begun, free})
			if d || id != len(puts) {
				t.Error("id", id, len(puts))
			}
			x := api.Parcel{ID: id, Size: size, Sent: now, Begun: begun, Time: free + p.Delay + k/10000%(p.Jitter+1), Body: strconv.Itoa(size)}
			switch {
			case k%100 < p.Loss:
				lost++
			case k/100%100 < p.Double:
				doubled++
				want = append(want, x)
				x.Time++
				want = append(want, x)
			default:
				want = append(want, x)
			}
			if n%3 == 0 {
				y, _ := l.Take(now)
				got = append(got, y...)
			}
			a, b, c, d2, f := l.Counts()
			if a != len(puts) || b != len(got) || c != lost || d2 != dropped || f != doubled || a+f != b+c+l.Under() {
				t.Error("counts", a, b, c, d2, f)
			}
		}
		y, _ := l.Take(now + 100000)
		got = append(got, y...)
		slices.SortStableFunc(want, func(a, b api.Parcel) int { return (a.Time-b.Time)*10000 + a.ID - b.ID })
		if !slices.Equal(got, want) {
			t.Error("parcels", seed, len(got), len(want))
		}
		// P24.3: at most Rate bytes a second begin to go, but for one packet.
		for i := range puts {
			bytes := 0
			for j := i; j < len(puts); j++ {
				if bytes += puts[j].size; (bytes-puts[j].size)*1000 > p.Rate*(puts[j].begun-puts[i].begun) {
					t.Error("rate", i, j)
				}
			}
		}
	}
}

func TestP246Take(t *testing.T) {
	p := api.Pipe{Rate: 900, Delay: 30, Room: 500, Loss: 10, Double: 30, Jitter: 50}
	a, b := made(t, p, draws(1, 100)...), made(t, p, draws(1, 100)...)
	for k, n := range draws(2, 50) {
		a.Put(k*50, n%100, strconv.Itoa(k))
		b.Put(k*50, n%100, strconv.Itoa(k))
	}
	if a.Text() != b.Text() || a.Text() == "" {
		t.Error("Text")
	}
	all, _ := a.Take(100000)
	var steps []api.Parcel
	for now := 2450; now <= 100000; now += 17 {
		x, e := b.Take(now)
		if e != api.OK {
			t.Fatal(e)
		}
		steps = append(steps, x...)
	}
	if !slices.Equal(all, steps) || len(all) < 30 || a.Under() != 0 {
		t.Error(len(all), len(steps))
	}
	if _, e := a.Next(); e != api.ErrNone {
		t.Error(e)
	}
	b.Take(100000)
	if a.Text() != b.Text() {
		t.Error("Text")
	}
}

func TestSet(t *testing.T) {
	l := made(t, api.Pipe{Rate: 1000, Room: 1000})
	l.Put(0, 100, "")
	if e := l.Set(api.Pipe{Rate: 10, Delay: 7, Room: 1000}); e != api.OK {
		t.Error(e)
	}
	l.Put(0, 1, "")
	if n, _ := l.Wait(0); n != 200 {
		t.Error(n)
	}
	p, _ := l.Take(1000)
	if len(p) != 2 || p[0].Time != 100 || p[1].Time != 207 || l.Now() != 1000 {
		t.Error(p)
	}
	if n, _ := l.Wait(1000); n != 0 {
		t.Error(n)
	}
	// Room 0: what begins at once is never dropped.
	z := made(t, api.Pipe{Rate: 1000})
	if _, dropped, _ := z.Put(0, 500, ""); dropped {
		t.Error("begins at once")
	}
	if _, dropped, _ := z.Put(499, 1, ""); !dropped {
		t.Error("no room")
	}
	if _, dropped, _ := z.Put(500, 1, ""); dropped {
		t.Error("begins at once")
	}
}
