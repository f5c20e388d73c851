package table

import (
	"reflect"
	"slices"
	"strconv"
	"strings"
	"testing"

	"covey/addr"
	"covey/api"
	"covey/hash"
	"covey/node"
)

func id(first byte, rest string) string { return string([]byte{first}) + hash.Old(rest)[:19] }

func own() string { return strings.Repeat("\x00", 20) }

func at(k, family int) api.Addr {
	if family == 6 {
		return api.Addr{Family: 6, IP: strings.Repeat("\x20", 14) + string([]byte{byte(k >> 8), byte(k)}), Port: 6881}
	}
	a, _ := addr.V4(10, 0, k>>8, k&255, 6881)
	return a
}

func nodeOf(first byte, k, family int) api.Node {
	return api.Node{ID: id(first, strconv.Itoa(k)), Addr: at(k, family)}
}

func TestP131Errors(t *testing.T) {
	var nobody *Table
	n := nodeOf(1, 1, 4)
	if _, e := nobody.Seen(0, n, true); e != api.ErrInvalid || nobody.Own() != "" || nobody.Move(0, own()) != api.ErrInvalid {
		t.Error(e)
	}
	if _, e := nobody.Buckets(0, 4); e != api.ErrInvalid {
		t.Error(e)
	}
	if _, e := New("x"); e != api.ErrInvalid {
		t.Error(e)
	}
	x, _ := New(own())
	x.Seen(10, n, true)
	if x.Own() != own() {
		t.Error("Own")
	}
	if _, e := x.Seen(-1, api.Node{}, true); e != api.ErrInvalid {
		t.Error(e)
	}
	if _, e := x.Find(-1, "x", 5); e != api.ErrInvalid {
		t.Error(e)
	}
	if _, e := x.Nearest(-1, "x", 5, -1); e != api.ErrInvalid {
		t.Error(e)
	}
	for _, now := range []int{-1, 9, api.MaxTime + 1} {
		_, e1 := x.Seen(now, n, true)
		_, e2 := x.Failed(now, n)
		_, e3 := x.Nearest(now, own(), 4, 1)
		_, e4 := x.Buckets(now, 4)
		_, e5 := x.Find(now, n.ID, 4)
		_, e6 := x.Refresh(now, 4)
		_, e7 := x.Doubtful(now, 4)
		_, _, _, _, e8 := x.Count(now, 4)
		e9 := x.Move(now, own())
		_, _, e10 := x.Save(now)
		for i, e := range []api.Errno{e1, e2, e3, e4, e5, e6, e7, e8, e9, e10} {
			if e != api.ErrRange {
				t.Error(now, i, e)
			}
		}
	}
	if _, e := x.Buckets(10, 5); e != api.ErrRange {
		t.Error(e)
	}
	if _, e := x.Nearest(10, own(), 4, -1); e != api.ErrRange {
		t.Error(e)
	}
	if _, e := x.Find(10, own(), 4); e != api.ErrNone {
		t.Error(e)
	}
	for k, c := range []struct {
		now, answered, asked, failed, kind int
		e                                  api.Errno
	}{
		{0, -2, 0, 0, 0, api.ErrInvalid}, {0, 0, api.MaxTime + 1, 0, 0, api.ErrInvalid}, {0, 0, 0, -1, 0, api.ErrInvalid}, {-1, 0, 0, 0, 0, api.ErrRange},
		{900000, 0, -1, 0, api.NGood, api.OK}, {900001, 0, -1, 0, api.NDoubtful, api.OK}, {900001, 0, 1, 0, api.NGood, api.OK}, {5, -1, 5, 0, api.NDoubtful, api.OK},
		{5, 5, 5, 1, api.NGood, api.OK}, {5, 5, 5, 2, api.NBad, api.OK}, {5, -1, -1, 0, api.NDoubtful, api.OK},
	} {
		got, e := Kind(c.now, api.Entry{Node: n, Answered: c.answered, Asked: c.asked, Failed: c.failed})
		if got != c.kind || e != c.e {
			t.Error(k, got, e)
		}
	}
	if _, e := Load(-1, own(), "x", ""); e != api.ErrRange {
		t.Error(e)
	}
	if _, e := Load(0, own(), strings.Repeat("\x00", 26), "x"); e != api.ErrSize {
		t.Error(e)
	}
	if _, e := Load(0, own(), strings.Repeat("\x00", 26), ""); e != api.ErrData {
		t.Error(e)
	}
}

func find(x *Table, now int, n api.Node) bool {
	e, err := x.Find(now, n.ID, n.Addr.Family)
	return err == api.OK && e.Node == n
}

func spare(x *Table, now int) []api.Entry {
	l, _ := x.Buckets(now, 4)
	return l[len(l)-1].Spare
}

func TestSeen(t *testing.T) {
	x, _ := New(own())
	see := func(now int, n api.Node, answered, want bool) {
		t.Helper()
		if got, e := x.Seen(now, n, answered); got != want || e != api.OK {
			t.Error(got, e)
		}
	}
	see(0, api.Node{ID: own(), Addr: at(1, 4)}, true, false)
	var far []api.Node
	for k := range 30 {
		far = append(far, nodeOf(0x80+byte(k), k, 4))
	}
	for _, n := range far[:8] {
		see(0, n, true, true)
	}
	see(0, far[8], false, true) // the bucket was split; a spare one of the far half
	if l, _ := x.Buckets(0, 4); len(l) != 2 || l[1].Bits != 1 || len(l[1].Entries) != 8 || len(l[1].Spare) != 1 || l[1].Prefix[0] != 0x80 || l[1].Spare[0].Kind != api.NDoubtful {
		t.Error(l)
	}
	// Another identifier at a good one's address, and another address of one.
	see(0, api.Node{ID: far[20].ID, Addr: far[0].Addr}, true, false)
	see(0, api.Node{ID: far[0].ID, Addr: far[20].Addr}, true, false)
	see(0, api.Node{ID: far[0].ID, Addr: at(3, 6)}, true, true)
	for _, n := range far[9:16] {
		see(0, n, false, true)
	}
	see(0, far[16], false, false)
	see(0, far[16], true, true) // the first one that never answered goes
	if s := spare(x, 0); len(s) != 8 || s[0].Node != far[9] || s[7].Node != far[16] {
		t.Error(s)
	}
	// A bad one is relieved by the last spare one that answered.
	x.Failed(1, far[3])
	if !find(x, 1, far[3]) {
		t.Error("one failure is not bad")
	}
	x.Failed(1, far[3])
	l, _ := x.Buckets(1, 4)
	if find(x, 1, far[3]) || l[1].Entries[7].Node != far[16] || len(l[1].Spare) != 7 {
		t.Error("relieved", l[1])
	}
	x.Failed(2, far[4])
	x.Failed(2, far[4])
	l, _ = x.Buckets(2, 4)
	if l[1].Entries[7].Node != far[15] || l[1].Entries[7].Kind != api.NDoubtful {
		t.Error("the last one, if none answered", l[1])
	}
	// A spare one that fails twice goes.
	if known, _ := x.Failed(2, far[9]); !known {
		t.Error("Failed")
	}
	x.Failed(2, far[9])
	if known, _ := x.Failed(2, far[9]); known || find(x, 2, far[9]) {
		t.Error("Failed")
	}
	// A doubtful one is taken out, when its address tells another identifier.
	other := api.Node{ID: far[21].ID, Addr: far[15].Addr}
	see(3, other, false, true)
	if find(x, 3, far[15]) || !find(x, 3, other) {
		t.Error("taken out")
	}
	if g, d, b, s, e := x.Count(3, 4); g != 7 || d != 1 || b != 0 || s != 5 || e != api.OK {
		t.Error(g, d, b, s, e)
	}
	if d, _ := x.Doubtful(3, 4); !slices.Equal(d, []api.Node{other}) {
		t.Error(d)
	}
}

func TestReplace(t *testing.T) {
	x, _ := New(own())
	var far []api.Node
	for k := range 20 {
		far = append(far, nodeOf(0x80+byte(k), k, 4))
	}
	for _, n := range far[:8] {
		x.Seen(0, n, true)
	}
	x.Seen(0, nodeOf(1, 99, 4), true) // split
	for _, n := range []int{2, 5, 5, 2, 5} {
		x.Failed(1, far[n])
	}
	x.Seen(2, far[10], false) // in the place of the worst
	l, _ := x.Buckets(2, 4)
	if e := l[1].Entries; e[7].Node != far[10] || find(x, 2, far[5]) || !find(x, 2, far[2]) || e[2].Kind != api.NBad {
		t.Error(e)
	}
	x.Seen(2, far[2], false)
	if e, _ := x.Find(2, far[2].ID, 4); e.Failed != 2 || e.Asked != 2 {
		t.Error(e)
	}
	x.Seen(2, far[2], true)
	if e, _ := x.Find(2, far[2].ID, 4); e.Failed != 0 || e.Answered != 2 || e.Kind != api.NGood {
		t.Error(e)
	}
	x.Seen(3, far[11], false) // a spare one
	x.Failed(3, far[11])
	x.Failed(3, far[2])
	x.Failed(3, far[2])
	if !find(x, 3, far[11]) || find(x, 3, far[2]) || len(spare(x, 3)) != 0 {
		t.Error("a spare one that failed once takes the place")
	}
	// A spare one that answers takes the place of a bad entry.
	y, _ := New(own())
	for _, n := range far[:8] {
		y.Seen(0, n, true)
	}
	y.Seen(0, nodeOf(1, 99, 4), true)
	y.Failed(0, far[0])
	y.Failed(0, far[0])
	b := y.of(4, far[9].ID)
	b.spare = append(b.spare, api.Entry{Node: far[9], Answered: -1, Asked: 0})
	y.Seen(1, far[9], false)
	if len(spare(y, 1)) != 1 {
		t.Error("stays spare")
	}
	y.Seen(1, far[9], true)
	if len(spare(y, 1)) != 0 || find(y, 1, far[0]) || !find(y, 1, far[9]) {
		t.Error("takes the place")
	}
}

// play drives a table by draws, and calls check behind each step.
func play(seed string, steps int, check func(x *Table, now int, was *[]api.Bucket, n api.Node)) *Table {
	draw := func(k, n int) int {
		v, _ := hash.Draw(seed, k, n)
		return v
	}
	x, _ := New(hash.Old(seed))
	now := 0
	for k := range steps {
		now += draw(6*k, 20) * draw(6*k+1, 2000)
		who := draw(6*k+2, 120)
		n := api.Node{ID: hash.Old(strconv.Itoa(who)), Addr: at(who+draw(6*k+3, 20)/19, 4)}
		if who%3 == 0 {
			p, _ := node.Prefix(x.Own(), 3+who%9)
			n.ID, _ = node.In(p, 3+who%9, "near", who)
		}
		was, _ := x.Buckets(now, 4)
		switch draw(6*k+4, 5) {
		case 0, 1:
			x.Seen(now, n, true)
		case 2:
			x.Seen(now, n, false)
		default:
			x.Failed(now, n)
		}
		check(x, now, &was, n)
	}
	return x
}

func TestP132Cover(t *testing.T) {
	for s := range 6 {
		play("cover"+strconv.Itoa(s), 400, func(x *Table, now int, _ *[]api.Bucket, _ api.Node) {
			l, e := x.Buckets(now, 4)
			if e != api.OK {
				t.Fatal(e)
			}
			for k := range 40 {
				held, _ := node.Random("any", k)
				n := 0
				for _, b := range l {
					if in, _ := node.Within(held, b.Prefix, b.Bits); in {
						n++
					}
				}
				if n != 1 {
					t.Error("covered", n)
				}
			}
			for i, b := range l {
				if i > 0 && l[i-1].Prefix >= b.Prefix || len(b.Entries) > 8 || len(b.Spare) > 8 {
					t.Error("buckets", i)
				}
				holdsOwn, _ := node.Within(x.Own(), b.Prefix, b.Bits)
				if holdsOwn && b.Bits != len(l)-1 {
					t.Error("the own one is split alone", b.Bits, len(l))
				}
				for _, e := range append(slices.Clone(b.Entries), b.Spare...) {
					if in, _ := node.Within(e.Node.ID, b.Prefix, b.Bits); !in {
						t.Error("entry")
					}
				}
			}
		})
	}
}

func TestP133Good(t *testing.T) {
	for s := range 6 {
		play("good"+strconv.Itoa(s), 500, func(x *Table, now int, was *[]api.Bucket, n api.Node) {
			for _, b := range *was {
				for _, e := range b.Entries {
					if e.Kind == api.NGood && e.Node != n && !find(x, now, e.Node) {
						t.Error("a good one was put out")
					}
				}
			}
		})
	}
}

func TestP134Nearest(t *testing.T) {
	for s := range 4 {
		x := play("nearest"+strconv.Itoa(s), 400, func(*Table, int, *[]api.Bucket, api.Node) {})
		for k := range 10 {
			target, _ := node.Random("t", k)
			l, _ := x.Buckets(x.now, 4)
			var good, doubtful []api.Node
			for _, b := range l {
				for _, e := range b.Entries {
					if e.Kind == api.NGood {
						good = append(good, e.Node)
					} else if e.Kind == api.NDoubtful {
						doubtful = append(doubtful, e.Node)
					}
				}
			}
			good, _ = node.Sorted(target, good)
			doubtful, _ = node.Sorted(target, doubtful)
			all := append(good, doubtful...)
			for _, most := range []int{0, 3, 8, 1000} {
				got, e := x.Nearest(x.now, target, 4, most)
				if !slices.Equal(got, all[:min(most, len(all))]) || e != api.OK {
					t.Error("Nearest", most, e)
				}
			}
			met := map[api.Addr]bool{}
			for _, n := range all {
				if met[n.Addr] {
					t.Error("an address twice")
				}
				met[n.Addr] = true
			}
		}
	}
}

func TestP135Spare(t *testing.T) {
	for s := range 6 {
		play("spare"+strconv.Itoa(s), 500, func(x *Table, now int, _ *[]api.Bucket, _ api.Node) {
			l, _ := x.Buckets(now, 4)
			for _, b := range l {
				bad := slices.ContainsFunc(b.Entries, func(e api.Entry) bool { return e.Kind == api.NBad })
				if bad && slices.ContainsFunc(b.Spare, func(e api.Entry) bool { return e.Answered >= 0 && e.Kind != api.NBad }) {
					t.Error("a spare one that answered beside a bad entry")
				}
			}
		})
	}
}

func TestP136Back(t *testing.T) {
	for s := range 6 {
		x := play("back"+strconv.Itoa(s), 300, func(*Table, int, *[]api.Bucket, api.Node) {})
		x.Seen(x.now, nodeOf(7, 7, 6), true)
		four, six, e := x.Save(x.now)
		y, f := Load(x.now, x.Own(), four, six)
		if e != api.OK || f != api.OK || six == "" {
			t.Fatal(e, f)
		}
		var want, got []api.Node
		for e := range x.entries(4) {
			if kind(x.now, e) != bad {
				want = append(want, e.Node)
			}
		}
		for e := range y.entries(4) {
			if e.Asked != x.now || e.Answered != -1 {
				t.Error("asked", e)
			}
			got = append(got, e.Node)
		}
		want, _ = node.Sorted(x.Own(), want)
		got, _ = node.Sorted(x.Own(), got)
		if !slices.Equal(want, got) {
			t.Error("entries", len(want), len(got))
		}
	}
}

func TestMoveAndRefresh(t *testing.T) {
	x, _ := New(own())
	for k := range 12 {
		x.Seen(k, nodeOf(byte(20*k), k, 4), k%2 == 0)
	}
	if r, e := x.Refresh(900011, 4); len(r) != 1 || e != api.OK { // the near half was changed later
		t.Error(len(r), e)
	}
	r, _ := x.Refresh(900012, 4)
	l, _ := x.Buckets(900012, 4)
	for i, b := range l {
		want, _ := node.In(b.Prefix, b.Bits, own()[:16], b.Bits)
		if r[i] != want {
			t.Error("Refresh", i)
		}
	}
	if r, _ := x.Refresh(900012, 6); len(r) != 1 {
		t.Error("made at the time 0")
	}
	before := map[api.Node]api.Entry{}
	for e := range x.entries(4) {
		before[e.Node] = e
	}
	for e := range x.spares(4) {
		before[e.Node] = e
	}
	if e := x.Move(900013, strings.Repeat("\xff", 20)); e != api.OK || x.Own() != strings.Repeat("\xff", 20) {
		t.Error(e)
	}
	n := 0
	for e := range x.entries(4) {
		n++
		if !reflect.DeepEqual(before[e.Node], e) {
			t.Error("times", e, before[e.Node])
		}
	}
	if r, _ := x.Refresh(900013, 4); len(r) != 0 || n < 10 {
		t.Error("all have changed now", n)
	}
	x.Move(900014, nodeOf(0, 0, 4).ID)
	if find(x, 900014, nodeOf(0, 0, 4)) {
		t.Error("the own identifier is refused")
	}
}
