package tier

import (
	"math"
	"slices"
	"strconv"
	"strings"
	"testing"

	"covey/api"
	"covey/hash"
)

func list() [][]string { return [][]string{{"a", "b", "c"}, {"d"}, {"e", "f"}} }

func made(whole bool) *Tiers {
	t, e := New("seed", list(), whole)
	if e != api.OK {
		panic(e)
	}
	return t
}

func TestP111Errors(t *testing.T) {
	var nobody *Tiers
	if _, e := nobody.Next(0); e != api.ErrInvalid || nobody.State() != "" || nobody.Stop() != api.ErrInvalid || nobody.Answer(0, 1) != api.ErrInvalid || nobody.Fail(0) != api.ErrInvalid || nobody.Done() != api.ErrInvalid || nobody.Start() != api.ErrInvalid || nobody.Add(0, "x") != api.ErrInvalid {
		t.Error("nil", e)
	}
	var twenty []string
	for i := range 21 {
		twenty = append(twenty, strconv.Itoa(i))
	}
	for k, l := range [][][]string{nil, {{}}, {{"a"}, {"a"}}, {{"a", "a"}}, {{""}}, {{strings.Repeat("x", 201)}}, {twenty}, make([][]string, 21)} {
		if x, e := New("s", l, false); x != nil || e != api.ErrInvalid {
			t.Error(k, e)
		}
	}
	if _, e := New(strings.Repeat("x", 101), list(), false); e != api.ErrInvalid {
		t.Error(e)
	}
	x := made(false)
	if _, e := x.Next(10); e != api.OK {
		t.Error(e)
	}
	for _, now := range []int{-1, 9, api.MaxTime + 1} {
		_, e1 := x.Next(now)
		_, e2 := x.When(now)
		if e1 != api.ErrRange || e2 != api.ErrRange || x.Answer(now, 1) != api.ErrRange || x.Fail(now) != api.ErrRange {
			t.Error(now, e1, e2)
		}
	}
	for _, i := range []int{0, -1, 100000001} {
		if e := x.Answer(10, i); e != api.ErrRange {
			t.Error(e)
		}
	}
	if _, e := x.Next(10); e != api.ErrState {
		t.Error(e)
	}
	if _, e := x.When(10); e != api.ErrState {
		t.Error(e)
	}
	if e := x.Answer(10, 1000); e != api.OK {
		t.Error(e)
	}
	if x.Answer(10, 1) != api.ErrNone || x.Fail(10) != api.ErrNone {
		t.Error("nothing is under way")
	}
	if x.Start() != api.ErrState || x.Stop() != api.OK || x.Stop() != api.ErrState || x.Done() != api.OK || x.Done() != api.ErrState || made(true).Done() != api.ErrState {
		t.Error("states")
	}
	for tier, want := range map[int]api.Errno{-1: api.ErrRange, 3: api.ErrRange, 0: api.OK} {
		if _, e := x.Order(tier); e != want {
			t.Error(tier, e)
		}
	}
	if _, e := x.Failed(""); e != api.ErrInvalid {
		t.Error(e)
	}
	if _, e := x.Failed("z"); e != api.ErrName {
		t.Error(e)
	}
	for k, c := range []struct {
		tier int
		name string
		e    api.Errno
	}{{9, "", api.ErrInvalid}, {4, "a", api.ErrRange}, {-1, "z", api.ErrRange}, {1, "a", api.ErrDuplicate}, {3, "z", api.OK}, {3, "y", api.OK}} {
		if e := x.Add(c.tier, c.name); e != c.e {
			t.Error(k, e)
		}
	}
	y, _ := New("", [][]string{twenty[:20]}, false)
	if e := y.Add(0, "z"); e != api.ErrLimit {
		t.Error(e)
	}
	for i := 1; i < 20; i++ {
		y.Add(i, "n"+strconv.Itoa(i))
	}
	if e := y.Add(20, "z"); e != api.ErrLimit {
		t.Error(e)
	}
	for n, want := range map[int]int{0: 0, 1: 10000, 3: 50000, 26: 3385000, 27: 3600000, 100: 3600000, math.MaxInt: 3600000} {
		if w, e := Wait(n); w != want || e != api.OK {
			t.Error(n, w, e)
		}
	}
	if _, e := Wait(-1); e != api.ErrRange {
		t.Error(e)
	}
}

func TestP112Events(t *testing.T) {
	x := made(false)
	o, _ := x.Order(0)
	step := func(now, tracker, event int, answered bool) {
		t.Helper()
		a, e := x.Next(now)
		if e != api.OK || a.Tracker != tracker || a.Event != event || a.Time != now {
			t.Error(a, e)
		}
		if answered {
			e = x.Answer(now, 1000)
		} else {
			e = x.Fail(now)
		}
		if e != api.OK {
			t.Error(e)
		}
	}
	idle := func(now int) {
		t.Helper()
		if a, e := x.Next(now); e != api.ErrNone || a != (api.Tried{}) {
			t.Error(a, e)
		}
	}
	x.Done()
	step(0, 0, api.EStarted, false)
	step(0, 1, api.EStarted, true) // o[1] goes to the front
	step(0, 0, api.EDone, false)
	step(0, 2, api.EDone, true) // o[2] goes to the front; the first one waits
	idle(0)
	idle(999)
	step(1000, 0, api.ENone, true)
	if got, _ := x.Order(0); !slices.Equal(got, []string{o[2], o[1], o[0]}) {
		t.Error(got, o)
	}
	x.Stop()
	step(1000, 0, api.EStopped, false)
	step(1000, 1, api.EStopped, true)
	idle(1000)
	if _, e := x.When(1000); e != api.ErrNone {
		t.Error(e)
	}
	x.Start()
	if n, e := x.Failed(o[0]); n != 0 || e != api.OK {
		t.Error(n, e)
	}
	if w, e := x.When(1000); w != 1000 || e != api.OK {
		t.Error(w, e)
	}
	x.Stop()
	idle(1000)
	x.Start()
	step(1000, 0, api.EStarted, true)
	idle(1001)
	x.Stop()
	step(1001, 0, api.EStopped, true)
	// Whole: done is never told; with Stop while an asking is under way its end counts.
	y := made(true)
	y.Next(0)
	y.Stop()
	if _, e := y.Next(0); e != api.ErrState {
		t.Error(e)
	}
	y.Answer(0, 50)
	if a, e := y.Next(0); a.Event != api.EStopped || e != api.OK {
		t.Error(a, e)
	}
}

// life drives a client by draws, and checks what the chapter promises.
func life(t *testing.T, seed string, steps int) {
	x := made(false)
	now := 0
	again := map[string]int{}
	startedIn, doneIn := 0, 0
	told, answered := map[string]int{}, map[string]bool{}
	on := true
	draw := func(k, n int) int {
		v, _ := hash.Draw(seed, k, n)
		return v
	}
	for k := range steps {
		switch draw(5*k, 12) {
		case 0:
			x.Done()
		case 1:
			if x.Stop() == api.OK {
				on = false
			}
		case 2:
			if x.Start() == api.OK {
				on, again, told, answered, startedIn = true, map[string]int{}, map[string]int{}, map[string]bool{}, 0
			}
		}
		when, e := x.When(now)
		if e == api.ErrNone {
			if _, e := x.Next(now); e != api.ErrNone {
				t.Error("Next, though never", e)
			}
			continue
		}
		if when > now {
			for _, early := range []int{now, when - 1} {
				if _, e := x.Next(early); e != api.ErrNone {
					t.Error("before When", early, when, e)
				}
			}
		}
		now = when
		a, e := x.Next(now)
		if e != api.OK {
			t.Fatal("at When", e)
		}
		order, _ := x.Order(a.Tier)
		name := order[a.Tracker]
		if a.Event != api.EStopped {
			if now < again[name] || !on {
				t.Error("asked too early", name)
			}
			for i := range a.Tier + 1 {
				o, _ := x.Order(i)
				for j, n := range o {
					if (i < a.Tier || j < a.Tracker) && again[n] <= now {
						t.Error("one before does not wait", n)
					}
				}
			}
		} else if told[name]++; told[name] > 1 || !answered[name] || on {
			t.Error("stopped", name, told[name])
		}
		now += draw(5*k+1, 3000)
		if draw(5*k+2, 3) > 0 {
			x.Answer(now, 1+draw(5*k+3, 20000))
			delete(again, name)
			if o, _ := x.Order(a.Tier); o[0] != name || len(o) != len(order) {
				t.Error("front", o)
			}
			if a.Event != api.EStopped {
				answered[name] = true
			}
			if a.Event == api.EStarted {
				startedIn++
			}
			if a.Event == api.EDone {
				doneIn++
			}
			if startedIn > 1 || doneIn > 1 || startedIn == 0 && a.Event == api.EDone {
				t.Error("events", startedIn, doneIn)
			}
			continue
		}
		x.Fail(now)
		n, _ := x.Failed(name)
		w, _ := Wait(n)
		again[name] = now + w
	}
}

func TestP113When(t *testing.T) {
	for k := range 30 {
		life(t, "life"+strconv.Itoa(k), 150)
	}
}

// At the end of time: what may be asked only behind it is never asked.
func TestP113EndOfTime(t *testing.T) {
	for k, c := range []struct {
		now, interval int // an interval of 0: it fails
		at            int
		e             api.Errno
	}{
		{api.MaxTime, 1, 0, api.ErrNone}, {api.MaxTime - 5, 5, api.MaxTime, api.OK}, {api.MaxTime - 5, 6, 0, api.ErrNone}, {0, 100000000, 100000000, api.OK},
		{api.MaxTime, 0, 0, api.ErrNone}, {api.MaxTime - 10000, 0, api.MaxTime, api.OK}, {api.MaxTime - 9999, 0, 0, api.ErrNone},
	} {
		x, _ := New("", [][]string{{"a"}}, false)
		x.Next(c.now)
		if c.interval == 0 {
			x.Fail(c.now)
		} else {
			x.Answer(c.now, c.interval)
		}
		if at, e := x.When(c.now); at != c.at || e != c.e {
			t.Error(k, at, e)
		}
		if _, e := x.Next(api.MaxTime); e != c.e {
			t.Error(k, "Next at the last time", e)
		}
	}
	// Of several the least time counts, and what is due at once is told still.
	x := made(false)
	x.Next(api.MaxTime)
	x.Fail(api.MaxTime)
	if at, e := x.When(api.MaxTime); at != api.MaxTime || e != api.OK {
		t.Error(at, e)
	}
	x.Next(api.MaxTime)
	x.Answer(api.MaxTime, 1000)
	if at, e := x.When(api.MaxTime); at != 0 || e != api.ErrNone {
		t.Error(at, e)
	}
	x.Done()
	if at, e := x.When(api.MaxTime); at != api.MaxTime || e != api.OK {
		t.Error("done is due at once", at, e)
	}
}

func TestP114Order(t *testing.T) {
	x := made(false)
	o, _ := x.Order(0)
	want := []string{"a", "b", "c"}
	slices.SortFunc(want, func(a, b string) int { return strings.Compare(hash.Old("seed "+a), hash.Old("seed "+b)) })
	if !slices.Equal(o, want) {
		t.Error(o)
	}
	x.Add(0, "zz")
	if o, _ := x.Order(0); !slices.Equal(o, append(want, "zz")) {
		t.Error(o)
	}
	a, b := made(false), made(false)
	if a.State() != b.State() || a.State() == x.State() {
		t.Error("State")
	}
	a.Next(0)
	if a.State() == b.State() {
		t.Error("State")
	}
}

func TestP115Back(t *testing.T) {
	x, _ := New("s", [][]string{{"only"}}, false)
	now := 0
	for n := 1; n < 40; n++ {
		x.Next(now)
		x.Fail(now + 5)
		w, _ := Wait(n)
		if at, e := x.When(now + 5); at != now+5+w || e != api.OK {
			t.Error(n, at, e)
		}
		now += 5 + w
	}
}

func TestP116Tiers(t *testing.T) {
	x := made(false)
	for i, want := range []int{0, 0, 0, 1, 2, 2} {
		a, e := x.Next(i)
		if a.Tier != want || e != api.OK {
			t.Error(i, a, e)
		}
		x.Fail(i)
	}
	if at, e := x.When(5); at != 10000 || e != api.OK {
		t.Error(at, e)
	}
	if a, _ := x.Next(10000); a.Tier != 0 || a.Tracker != 0 {
		t.Error(a)
	}
}
