package delay

import (
	"math"
	"slices"
	"testing"

	"covey/api"
)

func made(t *testing.T, target int) *Control {
	t.Helper()
	c, e := New(target)
	if e != api.OK {
		t.Fatal(e)
	}
	return c
}

// draws are numbers that follow a short rule.
func draws(seed, n int) []int {
	var l []int
	x := uint64(seed)*2654435761 + 12345
	for range n {
		x = x*6364136223846793005 + 1442695040888963407
		l = append(l, int(x>>33))
	}
	return l
}

func TestP261Errors(t *testing.T) {
	var c *Control
	var p *Trip
	var o *Ordinary
	if c.Sample(0, 0, 0, 0) != api.ErrInvalid || c.Out(0) != api.ErrInvalid || c.Limit() != 0 || c.Bases() != nil || c.Target() != 0 || p.Add(0) != api.ErrInvalid || p.Out() != 0 || o.Acked(0) != api.ErrInvalid || o.Out() != api.ErrInvalid || o.Limit() != 0 {
		t.Error("nil")
	}
	_, e1 := c.Loss(0, 0)
	_, e2 := c.Base()
	_, e3 := c.Queueing()
	_, e4 := o.Loss(0, 0)
	if e1 != api.ErrInvalid || e2 != e1 || e3 != e1 || e4 != e1 {
		t.Error(e1, e2, e3, e4)
	}
	for _, n := range []int{0, -1, 1001} {
		if _, e := New(n); e != api.ErrRange {
			t.Error(e)
		}
	}
	c = made(t, 100)
	if _, e := c.Base(); e != api.ErrNone {
		t.Error(e)
	}
	if _, e := c.Queueing(); e != api.ErrNone {
		t.Error(e)
	}
	c.Sample(10, 0, 0, 0)
	for k, x := range [][4]int{{9, 0, 0, 0}, {-1, 0, 0, 0}, {api.MaxTime + 1, 0, 0, 0}, {10, -1, 0, 0}, {10, 1000001, 0, 0}, {10, 0, -1, 0}, {10, 0, 1 << 32, 0}, {10, 0, 0, -1}, {10, 0, 0, 1000001}} {
		if e := c.Sample(x[0], x[1], x[2], x[3]); e != api.ErrRange {
			t.Error(k, e)
		}
	}
	o = NewOrdinary()
	o.Loss(10, 0)
	for _, x := range [][2]int{{9, 0}, {10, -1}, {10, 60001}, {api.MaxTime + 1, 0}} {
		_, e1 := c.Loss(x[0], x[1])
		_, e2 := o.Loss(x[0], x[1])
		if e1 != api.ErrRange || e2 != api.ErrRange {
			t.Error(x, e1, e2)
		}
	}
	if c.Out(9) != api.ErrRange || o.Acked(-1) != api.ErrRange || o.Acked(1000001) != api.ErrRange || NewTrip().Add(-1) != api.ErrRange || NewTrip().Add(60001) != api.ErrRange {
		t.Error("ErrRange")
	}
	for _, x := range []struct {
		a, b int
		want bool
	}{{0, 1, true}, {1, 0, false}, {5, 5, false}, {most32, 0, true}, {0, half32 - 1, true}, {0, half32, false}, {half32, 0, false}} {
		if got, e := Less(x.a, x.b); got != x.want || e != api.OK {
			t.Error(x, got)
		}
	}
	if _, e := Less(0, math.MaxInt); e != api.ErrRange {
		t.Error(e)
	}
}

func TestSamples(t *testing.T) {
	c := made(t, 100)
	if c.Sample(0, 3000, 50, 3000) != api.OK || c.Limit() != 6000 || c.Target() != 100 {
		t.Error(c.Limit())
	}
	c.Sample(0, 3000, 150, 2999) // the delay now is the least one of the last four
	if q, e := c.Queueing(); q != 0 || e != api.OK || c.Limit() != 6000 {
		t.Error("grows only if it was used", q, c.Limit())
	}
	c.Sample(0, 3000, 150, 3000)
	if c.Limit() != 6000+1500 {
		t.Error(c.Limit())
	}
	c.Sample(0, 0, 150, 7500)
	c.Sample(0, 0, 150, 7500)
	if q, _ := c.Queueing(); q != 100 || c.Limit() != 7500 {
		t.Error(q, c.Limit())
	}
	for range 4 {
		c.Sample(0, 0, 500, 0)
	}
	if c.Sample(0, 1000, 500, 0); c.Limit() != 7500-400 {
		t.Error("at least -target", c.Limit())
	}
	c.Sample(0, 1000, 100000, 0)
	for range 4 {
		c.Sample(0, 0, 100000, 0)
	}
	if q, _ := c.Queueing(); q != 10000 {
		t.Error("at most 10,000 counts", q)
	}
	// Minutes: skipped ones have none, older ones than 9 before are forgotten.
	c = made(t, 100)
	for k, d := range []int{70, 60, 80} {
		c.Sample(k*minute, 0, d, 0)
	}
	c.Sample(2*minute+5, 0, 75, 0)
	c.Sample(2*minute+6, 0, 79, 0)
	c.Sample(9*minute, 0, 90, 0)
	if b, e := c.Base(); b != 60 || e != api.OK || !slices.Equal(c.Bases(), []int{70, 60, 75, 90}) {
		t.Error(b, c.Bases())
	}
	c.Sample(11*minute, 0, 95, 0)
	if b, _ := c.Base(); b != 75 || !slices.Equal(c.Bases(), []int{75, 90, 95}) {
		t.Error(b, c.Bases())
	}
	c.Out(11 * minute)
	if c.Limit() != 1500 {
		t.Error(c.Limit())
	}
}

func TestP262Yields(t *testing.T) {
	for seed := range 20 {
		c := made(t, 1+seed*50)
		d := draws(seed, 600)
		now := 0
		for k := 0; k+4 < len(d); k += 4 {
			now += d[k] % 5000
			before := c.Limit()
			if e := c.Sample(now, d[k+1]%20000, 1000+d[k+2]%300, d[k+3]%20000); e != api.OK {
				t.Fatal(e)
			}
			q, _ := c.Queueing()
			if q > c.target && c.Limit() > before || q < c.target && c.Limit() < before || c.Limit()-before > d[k+1]%20000 {
				t.Error("yields", q, before, c.Limit())
			}
			if k%40 == 0 {
				c.Loss(now, 10)
			}
		}
	}
}

func TestP263Clocks(t *testing.T) {
	for _, shift := range []int{1, 1000, half32, most32, most32 - 1100} {
		a, b := made(t, 100), made(t, 100)
		d := draws(3, 900)
		now := 0
		for k := 0; k+3 < len(d); k += 3 {
			now += d[k] % 9000
			delay := 1000 + d[k+1]%400
			a.Sample(now, d[k+2]%3000, delay, 100000)
			b.Sample(now, d[k+2]%3000, (delay+shift)&most32, 100000)
			if a.Limit() != b.Limit() {
				t.Fatal(shift, k)
			}
		}
	}
}

func TestP264Bounds(t *testing.T) {
	for seed := range 20 {
		c, o := made(t, 1+seed), NewOrdinary()
		d := draws(seed, 3000)
		now := 0
		var delays [][2]int
		for k := 0; k+5 < len(d); k += 5 {
			now += d[k] % 3000
			delay := d[k+1] % 100000 % (1 + d[k+2]%1000)
			delays = append(delays, [2]int{now / minute, delay})
			c.Sample(now, d[k+2]%1000001, delay, d[k+3]%1000001)
			o.Acked(d[k+2] % 1000001)
			switch d[k+4] % 9 {
			case 0:
				c.Loss(now, d[k]%1000)
				o.Loss(now, d[k]%1000)
			case 1:
				if d[k]%5 == 0 {
					c.Out(now)
					o.Out()
				}
			}
			base, _ := c.Base()
			for _, x := range delays {
				if x[0] > now/minute-10 && base > x[1] {
					t.Error("base", base, x)
				}
			}
			if l := c.Limit(); l < 1500 || l > 1000000 {
				t.Error(l)
			}
			if l := o.Limit(); l < 1500 || l > 1000000 {
				t.Error(l)
			}
		}
	}
}

func TestP265Loss(t *testing.T) {
	for _, w := range []interface {
		Loss(now, trip int) (bool, api.Errno)
		Limit() int
	}{made(t, 10), NewOrdinary()} {
		for k, x := range []struct {
			now, trip int
			halved    bool
		}{{0, 100, true}, {99, 100, false}, {100, 100, true}, {100, 0, false}, {101, 0, true}, {102, 1, true}, {150, 60000, false}} {
			if got, e := w.Loss(x.now, x.trip); got != x.halved || e != api.OK {
				t.Error(k, got, e)
			}
		}
	}
	c := made(t, 100)
	c.Sample(0, 3000, 5, 3000)
	c.Sample(0, 1, 5, 3000)
	c.Loss(0, 0)
	if c.Limit() != 3000 {
		t.Error(c.Limit())
	}
	o := NewOrdinary()
	o.Acked(5000)
	o.Acked(0)
	if o.Limit() != 4500 {
		t.Error(o.Limit())
	}
	for range 4 {
		o.Acked(1500)
	}
	o.Loss(0, 0)
	if o.Limit() != 5250 {
		t.Error(o.Limit())
	}
	o.Acked(1500)
	if o.Limit() != 5250+428 {
		t.Error(o.Limit())
	}
	o.Acked(1)
	if o.Limit() != 5250+429 {
		t.Error("at least 1", o.Limit())
	}
	o.Out()
	if o.Limit() != 1500 {
		t.Error(o.Limit())
	}
	o.Acked(1500)
	o.Acked(1500)
	if o.Limit() != 1500+1500+750 {
		t.Error("the threshold is at least 3,000", o.Limit())
	}
}

func TestTrip(t *testing.T) {
	p := NewTrip()
	if p.Out() != 1000 {
		t.Error(p.Out())
	}
	p.Add(300)
	if m, s := p.Time(); m != 300 || s != 150 || p.Out() != 900 {
		t.Error(m, s)
	}
	p.Add(100)
	if m, s := p.Time(); m != 275 || s != 162 {
		t.Error(m, s)
	}
	for range 50 {
		p.Add(1)
	}
	if p.Out() != 500 {
		t.Error(p.Out())
	}
	q := NewTrip()
	q.Add(60000)
	if q.Out() != 60000 {
		t.Error(q.Out())
	}
}
