package choke

import (
	"math"
	"slices"
	"strconv"
	"strings"
	"testing"

	"covey/api"
	"covey/hash"
)

// rivals are rivals by draws.
func rivals(seed string, n int) []api.Rival {
	var l []api.Rival
	k := 0
	draw := func(n int) int {
		k++
		v, _ := hash.Draw(seed, k, n)
		return v
	}
	for i := range n {
		l = append(l, api.Rival{ID: i * 3, Interested: draw(4) > 0, Chokes: draw(2) == 0, From: draw(6) * 1000, To: draw(5) * 9000, Let: draw(9) - 1, Since: draw(12), Snubbed: draw(4) == 0, Now: draw(2) == 0, Seed: draw(5) == 0})
	}
	return l
}

func of(l []api.Rival, id int) api.Rival {
	return l[slices.IndexFunc(l, func(r api.Rival) bool { return r.ID == id })]
}

func TestP311Errors(t *testing.T) {
	var none *Super
	if none.Come(0) != api.ErrInvalid || none.Go(0) != api.ErrInvalid || none.Holds(0, 0) != api.ErrInvalid || none.Whole() {
		t.Error("nil")
	}
	if _, e := none.Next(0); e != api.ErrInvalid {
		t.Error(e)
	}
	if _, _, e := none.Count(0); e != api.ErrInvalid {
		t.Error(e)
	}
	long := strings.Repeat("x", 101)
	twice := []api.Rival{{ID: 1}, {ID: 1}}
	many := make([]api.Rival, 201)
	for k, c := range []struct {
		way, round, slots int
		seed              string
		l                 []api.Rival
		e                 api.Errno
	}{
		{0, 0, 0, long, twice, api.ErrInvalid}, {0, 0, 0, "", many, api.ErrInvalid}, {0, 0, 0, "", []api.Rival{{ID: -1}}, api.ErrInvalid}, {0, 0, 0, "", []api.Rival{{Let: -2}}, api.ErrInvalid}, {0, 0, 0, "", []api.Rival{{From: mostNumber + 1}}, api.ErrInvalid},
		{0, 0, 0, "", twice, api.ErrDuplicate}, {0, 0, 0, "", nil, api.ErrRange}, {5, 0, 0, "", nil, api.ErrRange}, {1, -1, 0, "", nil, api.ErrRange}, {1, 0, -1, "", nil, api.ErrRange}, {1, 0, 101, "", nil, api.ErrRange}, {4, math.MaxInt, 100, "", nil, api.OK},
	} {
		if l, e := Round(c.way, c.round, c.slots, c.seed, c.l); e != c.e || len(l) != 0 {
			t.Error(k, e)
		}
	}
	if _, e := Optimistic(-1, "", twice); e != api.ErrDuplicate {
		t.Error(e)
	}
	if _, e := Optimistic(-1, "", nil); e != api.ErrRange {
		t.Error(e)
	}
	one := []api.Rival{{ID: 1, Now: true}, {ID: 2}}
	for k, c := range []struct {
		l   []api.Rival
		let []int
		e   api.Errno
	}{{twice, nil, api.ErrDuplicate}, {one, []int{-1, -1}, api.ErrDuplicate}, {one, []int{9, -1}, api.ErrRange}, {one, []int{9}, api.ErrName}, {one, []int{2}, api.OK}} {
		if _, _, e := Changes(c.l, c.let); e != c.e {
			t.Error(k, e)
		}
	}
	for k, c := range []struct {
		l           []api.Rated
		slots, turn int
		e           api.Errno
	}{{make([]api.Rated, 201), 0, 0, api.ErrInvalid}, {[]api.Rated{{Peer: -1}}, 0, 0, api.ErrInvalid}, {[]api.Rated{{Gave: -1}}, 0, 0, api.ErrInvalid}, {[]api.Rated{{Let: -1}}, 0, 0, api.ErrInvalid}, {make([]api.Rated, 2), -1, 0, api.ErrDuplicate}, {nil, -1, 0, api.ErrRange}, {nil, 101, 0, api.ErrRange}, {nil, 0, -1, api.ErrRange}} {
		if _, e := Choose(c.l, c.slots, false, c.turn); e != c.e {
			t.Error(k, e)
		}
	}
	for rate, want := range map[int]int{0: 2, 9999: 2, 10000: 3, 19999: 3, 20000: 4, 39999: 4, 40000: 5, 939999: 49, 940000: 50, 1000000000: 50} {
		if n, e := Slots(rate); n != want || e != api.OK {
			t.Error(rate, n)
		}
	}
	for _, rate := range []int{-1, 1000000001} {
		if _, e := Slots(rate); e != api.ErrRange {
			t.Error(e)
		}
		if _, e := By([]int{rate}, 1, 1); e != api.ErrRange {
			t.Error(e)
		}
		if _, e := By(nil, rate, 1); e != api.ErrRange {
			t.Error(e)
		}
	}
	for k, c := range []struct {
		rates      []int
		rate, last int
		want       int
	}{{nil, 10, 5, 1}, {[]int{1, 2, 3}, 10, 5, 3}, {[]int{3, 1, 1}, 10, 5, 2}, {[]int{3, 2, 1}, 10, 1, 2}, {[]int{0}, 0, 0, 1}, {[]int{5, 0, 0}, 10, math.MaxInt, 2}} {
		if n, e := By(c.rates, c.rate, c.last); n != c.want || e != api.OK {
			t.Error(k, n, e)
		}
	}
	if _, e := NewSuper(long, 0); e != api.ErrInvalid {
		t.Error(e)
	}
	for _, n := range []int{0, -1, 4097} {
		if _, e := NewSuper("", n); e != api.ErrRange {
			t.Error(e)
		}
	}
	s, _ := NewSuper("s", 2)
	if s.Come(-1) != api.ErrRange || s.Come(1) != api.OK || s.Come(1) != api.ErrDuplicate || s.Go(2) != api.ErrNone || s.Holds(1, 2) != api.ErrRange || s.Holds(2, 0) != api.ErrNone || s.Holds(1, 0) != api.OK || s.Holds(1, 0) != api.ErrState {
		t.Error("Super")
	}
	if _, e := s.Next(2); e != api.ErrNone {
		t.Error(e)
	}
	if _, e := s.Told(2); e != api.ErrNone {
		t.Error(e)
	}
	if _, _, e := s.Count(2); e != api.ErrRange {
		t.Error(e)
	}
}

func TestP312Slots(t *testing.T) {
	for way := 1; way <= 4; way++ {
		for s := range 30 {
			l := rivals("slots"+strconv.Itoa(s), 3+s)
			for _, slots := range []int{0, 1, 2, 5, 100} {
				for round := range 4 {
					let, e := Round(way, round, slots, "seed", l)
					again, _ := Round(way, round, slots, "seed", slices.Concat(l[1:], l[:1]))
					if e != api.OK || !slices.IsSorted(let) || !slices.Equal(let, again) {
						t.Error(way, e)
					}
					could := 0
					for _, r := range l {
						if r.Interested && (!r.Seed || way == 3) {
							could++
						} else if slices.Contains(let, r.ID) {
							t.Error("not to be let", way, r)
						}
					}
					if len(let) != min(slots, could) {
						t.Error("slots", way, len(let), slots, could)
					}
				}
			}
		}
	}
	l := []api.Rival{{ID: 0, Interested: true, From: 5}, {ID: 1, Interested: true, From: 9}, {ID: 2, Interested: true, From: 7}, {ID: 3, Interested: true}}
	let, _ := Round(1, 0, 3, "s", l)
	if len(let) != 3 || !slices.Contains(let, 1) || !slices.Contains(let, 2) {
		t.Error(let)
	}
}

func TestP313Tat(t *testing.T) {
	for s := range 40 {
		l := rivals("tat"+strconv.Itoa(s), 20)
		for _, slots := range []int{2, 4, 7} {
			let, _ := Round(1, s, slots, "seed", l)
			opt, _ := Optimistic(s, "seed", l)
			// The regular ones are the best; the rest follow the optimistic order.
			var able []api.Rival
			for _, r := range l {
				if r.Interested && !r.Seed && !r.Snubbed {
					able = append(able, r)
				}
			}
			slices.SortFunc(able, func(a, b api.Rival) int {
				if a.From != b.From {
					return b.From - a.From
				}
				if a.Chokes != b.Chokes {
					if b.Chokes {
						return -1
					}
					return 1
				}
				if a.Since != b.Since {
					return a.Since - b.Since
				}
				return a.ID - b.ID
			})
			var want []int
			for _, r := range able[:min(slots-1, len(able))] {
				want = append(want, r.ID)
			}
			for _, id := range opt {
				if len(want) < slots && !slices.Contains(want, id) {
					want = append(want, id)
				}
			}
			slices.Sort(want)
			if !slices.Equal(let, want) {
				t.Error(s, slots, let, want)
			}
		}
	}
	one, _ := Round(1, 5, 1, "s", []api.Rival{{ID: 1, Interested: true, From: 9, Snubbed: true}})
	if !slices.Equal(one, []int{1}) {
		t.Error("the optimistic one alone", one)
	}
}

func TestOptimistic(t *testing.T) {
	l := []api.Rival{{ID: 1, Interested: true}, {ID: 2, Interested: true, Since: 8}, {ID: 3, Interested: true, Since: 7}, {ID: 4}, {ID: 5, Interested: true, Seed: true}, {ID: 6, Interested: true, Since: 99}}
	got, e := Optimistic(10, "s", l)
	least := func(id string, thrice bool) string {
		d := hash.Old("s:3:" + id)
		if thrice {
			d = min(d, hash.Old("s:3:"+id+"a"), hash.Old("s:3:"+id+"b"))
		}
		return d
	}
	by := map[int]string{1: least("1", false), 2: least("2", true), 3: least("3", false), 6: least("6", true)}
	want := []int{1, 2, 3, 6}
	slices.SortFunc(want, func(a, b int) int { return strings.Compare(by[a], by[b]) })
	if !slices.Equal(got, want) || e != api.OK {
		t.Error(got, want)
	}
	// The order stays for three rounds, but for who came lately.
	old := rivals("old", 20)
	for i := range old {
		old[i].Since = 0
	}
	a, _ := Optimistic(9, "s", old)
	b, _ := Optimistic(11, "s", old)
	c, _ := Optimistic(12, "s", old)
	if !slices.Equal(a, b) || slices.Equal(a, c) {
		t.Error("three rounds")
	}
	// Way 2: each third round the last place is an optimistic one's.
	l = nil
	for i := range 6 {
		l = append(l, api.Rival{ID: i, Interested: true, To: 100 - i})
	}
	for round := range 6 {
		let, _ := Round(2, round, 3, "s", l)
		want := []int{0, 1, 2}
		if round%3 == 2 {
			o, _ := Optimistic(round, "s", l[2:])
			want = []int{0, 1, o[0]}
		}
		if !slices.Equal(let, want) {
			t.Error(round, let, want)
		}
	}
	if let, _ := Round(2, 2, 6, "s", l); len(let) != 6 {
		t.Error(let)
	}
	l = []api.Rival{{ID: 1, Interested: true, From: 500}, {ID: 2, Interested: true, From: 1000}, {ID: 3, Interested: true, From: 1001}, {ID: 4, Interested: true, From: 900}, {ID: 5, Interested: true, From: 100}}
	if let, _ := Round(4, 0, 2, "s", l); !slices.Equal(let, []int{2, 3}) {
		t.Error(let)
	}
	if let, _ := Round(4, 0, 3, "s", l); !slices.Equal(let, []int{2, 3, 4}) {
		t.Error(let)
	}
}

func TestP314Turns(t *testing.T) {
	l := make([]api.Rival, 11)
	for i := range l {
		l[i] = api.Rival{ID: i, Interested: true, Let: -1, Seed: i == 3}
	}
	last := map[int]int{}
	for round := range 60 {
		let, _ := Round(3, round, 2, "s", l)
		for i := range l {
			l[i].Now = slices.Contains(let, i)
			l[i].To = 0
			if l[i].Now {
				l[i].Let, l[i].To = round, quota
				last[i] = round
			}
			if round-last[i] > len(l) {
				t.Error("too late", i)
			}
		}
		if len(let) != 2 {
			t.Error(let)
		}
	}
	keep := []api.Rival{{ID: 1, Interested: true, Now: true, To: quota - 1, Let: 9}, {ID: 2, Interested: true, Now: true, To: quota, Let: 8}, {ID: 3, Interested: true, Let: -1}, {ID: 4, Interested: true, Let: 5}, {ID: 5, Now: true}}
	if let, _ := Round(3, 10, 2, "s", keep); !slices.Equal(let, []int{1, 3}) {
		t.Error(let)
	}
	if let, _ := Round(3, 10, 4, "s", keep); !slices.Equal(let, []int{1, 2, 3, 4}) {
		t.Error(let)
	}
}

func TestP315Changes(t *testing.T) {
	for s := range 20 {
		l := rivals("changes"+strconv.Itoa(s), 15)
		let, _ := Round(1+s%4, s, 6, "s", l)
		on, off, e := Changes(l, let)
		var now []int
		for _, r := range l {
			if r.Now && !slices.Contains(off, r.ID) || slices.Contains(on, r.ID) {
				now = append(now, r.ID)
			}
			if slices.Contains(on, r.ID) && r.Now || slices.Contains(off, r.ID) && !r.Now {
				t.Error("changes nothing", r)
			}
		}
		slices.Sort(now)
		if !slices.Equal(now, let) || e != api.OK || !slices.IsSorted(on) || !slices.IsSorted(off) {
			t.Error(now, let)
		}
	}
}

func TestChoose(t *testing.T) {
	l := []api.Rated{{Peer: 5, Wants: true, Gave: 9, Got: 1}, {Peer: 2, Wants: true, Gave: 9, Let: 4, Snubbed: true, Got: 8}, {Peer: 3, Gave: 50}, {Peer: 8, Wants: true, Gave: 3, Let: 2, Got: 8}, {Peer: 1, Wants: true, Gave: 3, Let: 1, Got: 2}, {Peer: 9, Wants: true, Let: 1}}
	for k, c := range []struct {
		slots   int
		seeding bool
		turn    int
		want    []int
	}{{0, false, 0, []int{5}}, {1, false, 0, []int{1, 5}}, {1, false, 1, []int{5, 9}}, {1, false, 9, []int{1, 5}}, {2, false, 0, []int{1, 5, 9}}, {2, true, 0, []int{2, 5, 8}}, {10, false, 0, []int{1, 2, 5, 8, 9}}, {100, true, 7, []int{1, 2, 5, 8, 9}}} {
		if got, e := Choose(l, c.slots, c.seeding, c.turn); !slices.Equal(got, c.want) || e != api.OK {
			t.Error(k, got, c.want)
		}
	}
	if got, e := Choose(nil, 3, true, 0); len(got) != 0 || e != api.OK {
		t.Error(got)
	}
}

func TestP316Super(t *testing.T) {
	for run := range 10 {
		s, _ := NewSuper("s"+strconv.Itoa(run), 12)
		told, holds := map[int][]int{}, map[int]map[int]bool{}
		k := 0
		draw := func(n int) int {
			k++
			v, _ := hash.Draw("super"+strconv.Itoa(run), k, n)
			return v
		}
		for range 600 {
			id, i := draw(5), draw(12)
			switch draw(8) {
			case 0:
				if s.Come(id) == api.OK {
					told[id], holds[id] = nil, map[int]bool{}
				}
			case 1:
				if draw(6) == 0 && s.Go(id) == api.OK {
					delete(told, id)
					delete(holds, id)
				}
			case 2, 3:
				if s.Holds(id, i) == api.OK {
					holds[id][i] = true
				}
			default:
				x, there := holds[id]
				waits := false
				if l := told[id]; len(l) > 0 {
					last := l[len(l)-1]
					waits = !(len(holds) == 1 && x[last])
					for o, y := range holds {
						if o != id && y[last] {
							waits = false
						}
					}
				}
				free := 0
				times := make([]int, 12)
				for _, l := range told {
					for _, p := range l {
						times[p]++
					}
				}
				for p := range 12 {
					if !x[p] && !slices.Contains(told[id], p) {
						free++
					}
				}
				p, e := s.Next(id)
				if !there {
					if e != api.ErrNone {
						t.Error(e)
					}
					continue
				}
				if (e == api.ErrState) != (waits || free == 0) {
					t.Error("waits", e, waits, free)
				}
				if e != api.OK {
					continue
				}
				for q := range 12 {
					if !x[q] && !slices.Contains(told[id], q) && times[q] < times[p] {
						t.Error("the fewest", p, q)
					}
				}
				if x[p] || slices.Contains(told[id], p) {
					t.Error("told again")
				}
				told[id] = append(told[id], p)
			}
			for id, l := range told {
				if got, e := s.Told(id); !slices.Equal(got, l) || e != api.OK {
					t.Error("Told")
				}
			}
			whole := true
			for p := range 12 {
				a, b := 0, 0
				for id := range holds {
					if slices.Contains(told[id], p) {
						a++
					}
					if holds[id][p] {
						b++
					}
				}
				if x, y, e := s.Count(p); x != a || y != b || e != api.OK {
					t.Error("Count", p)
				}
				whole = whole && b > 0
			}
			if s.Whole() != whole {
				t.Error("Whole")
			}
		}
	}
	s, _ := NewSuper("s", 5)
	s.Come(0)
	p, _ := s.Next(0)
	for q := range 5 {
		if hash.Old("s:"+strconv.Itoa(q)) < hash.Old("s:"+strconv.Itoa(p)) {
			t.Error("the order of digests")
		}
	}
}
