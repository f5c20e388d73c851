package fast

import (
	"math"
	"reflect"
	"slices"
	"strconv"
	"strings"
	"testing"

	"covey/addr"
	"covey/api"
	"covey/bits"
	"covey/hash"
)

func name() string { return strings.Repeat("n", 20) }

func made(fast bool) *Side {
	s, e := New(10, 32, 20, 3, fast)
	if e != api.OK {
		panic(e)
	}
	return s
}

func msg(kind int, numbers ...int) api.Msg {
	m := api.Msg{Kind: kind}
	for i, n := range numbers {
		switch i {
		case 0:
			m.Index = n
		case 1:
			m.Begin = n
		case 2:
			if kind == api.MPiece {
				m.Data = strings.Repeat("x", n)
			} else {
				m.Length = n
			}
		}
	}
	return m
}

// steps takes messages, and checks what each tells.
func steps(t *testing.T, s *Side, l ...any) {
	t.Helper()
	for i := 0; i < len(l); i += 3 {
		out, m, want := l[i].(bool), l[i+1].(api.Msg), l[i+2].(api.Errno)
		before := s.Copy()
		may := s.May(out, m)
		if !reflect.DeepEqual(before, s) {
			t.Error(i/3, "May changes nothing")
		}
		e := s.Step(out, m)
		if e != want || may != want {
			t.Error(i/3, m, e, may)
		}
		if e != api.OK && !reflect.DeepEqual(before, s) {
			t.Error(i/3, "a refused message changes nothing")
		}
	}
}

func TestP211Errors(t *testing.T) {
	var none *Side
	if none.Step(true, msg(api.MKeep)) != api.ErrInvalid || none.May(true, msg(api.MKeep)) != api.ErrInvalid || none.Copy() != nil || none.Field(true) != "" || none.Choked(true) || none.Wants(true) || none.Waiting(true) != nil || none.Allowed(true) != nil || none.Owed(true) != nil || none.Begun(true) {
		t.Error("nil")
	}
	if _, e := none.Has(true, 0); e != api.ErrInvalid {
		t.Error(e)
	}
	for _, c := range [][4]int{{0, 16, 16, 1}, {api.MaxBits + 1, 16, 16, 1}, {1, 0, 1, 1}, {1, 1025, 16, 1}, {1, 16, 0, 1}, {1, 16, 17, 1}, {1, 16, 16, 0}, {1, 16, 16, 1001}, {math.MinInt, 16, 16, 1}} {
		if s, e := New(c[0], c[1], c[2], c[3], true); s != nil || e != api.ErrRange {
			t.Error(c, e)
		}
	}
	a, _ := addr.V4(1, 2, 3, 4, 5)
	for k, c := range []struct {
		a    api.Addr
		name string
		n, k int
		e    api.Errno
	}{{api.Addr{}, name(), 0, 0, api.ErrInvalid}, {a, "x", 0, 0, api.ErrInvalid}, {a, name(), 0, 0, api.ErrRange}, {a, name(), api.MaxBits + 1, 0, api.ErrRange}, {a, name(), 1, -1, api.ErrRange}} {
		if _, e := Allowed(c.a, c.name, c.n, c.k); e != c.e {
			t.Error(k, e)
		}
	}
	s := made(true)
	for i, want := range map[int]api.Errno{-1: api.ErrRange, 10: api.ErrRange, 9: api.OK} {
		if _, e := s.Has(true, i); e != want {
			t.Error(i, e)
		}
	}
	if e := s.Step(true, api.Msg{}); e != api.ErrInvalid {
		t.Error(e)
	}
	if f := s.Field(true); f != "\x00\x00" || !s.Choked(true) || !s.Choked(false) || s.Begun(true) || s.Wants(false) {
		t.Error("at the beginning")
	}
}

func TestRulesFast(t *testing.T) {
	s := made(true)
	steps(t, s,
		true, msg(api.MKeep), api.OK, true, msg(api.MExtended), api.OK, true, msg(api.MHave, 1), api.ErrKind, true, msg(api.MPort, 1), api.ErrKind, true, msg(api.MInterested), api.ErrKind,
		true, api.Msg{Kind: api.MBits, Data: "x"}, api.ErrData, true, api.Msg{Kind: api.MBits, Data: "\xff\xff"}, api.ErrData, true, api.Msg{Kind: api.MBits, Data: "\xc0\x00"}, api.OK,
		true, msg(api.MAll), api.ErrKind, true, msg(api.MNone), api.ErrKind, true, api.Msg{Kind: api.MBits, Data: "\xc0\x00"}, api.ErrKind,
		false, msg(api.MNone), api.OK, false, msg(api.MHave, 10), api.ErrRange, false, msg(api.MHave, 9), api.OK, false, msg(api.MHave, 9), api.OK,
		true, msg(api.MSuggest, 2), api.ErrState, true, msg(api.MSuggest, 1), api.OK, true, msg(api.MSuggest, 10), api.ErrRange, true, msg(api.MAllowed, 10), api.ErrRange,
		true, msg(api.MAllowed, 5), api.OK, true, msg(api.MAllowed, 1), api.OK, true, msg(api.MAllowed, 5), api.OK,
		false, msg(api.MInterested), api.OK,
		// Requests to one that chokes wait, and are owed.
		false, msg(api.MRequest, 2, 0, 16), api.ErrState, false, msg(api.MRequest, 0, 0, 16), api.OK, false, msg(api.MRequest, 0, 0, 16), api.ErrDuplicate, false, msg(api.MRequest, 1, 0, 16), api.OK,
		false, msg(api.MRequest, 0, 20, 16), api.ErrRange, false, msg(api.MRequest, 1, 16, 16), api.OK, false, msg(api.MRequest, 1, 0, 16), api.ErrDuplicate, false, msg(api.MRequest, 1, 16, 15), api.ErrFull)
	if l := s.Owed(true); !slices.Equal(l, []api.Choice{{Piece: 0, Begin: 0, Length: 16}}) || len(s.Waiting(true)) != 3 || len(s.Waiting(false)) != 0 || !slices.Equal(s.Allowed(true), []int{5, 1}) || !s.Wants(false) || s.Wants(true) {
		t.Error(l)
	}
	steps(t, s,
		true, msg(api.MPiece, 0, 0, 16), api.ErrState, true, msg(api.MPiece, 0, 5, 1), api.ErrState, true, msg(api.MPiece, 1, 0, 16), api.OK, true, msg(api.MPiece, 1, 0, 16), api.ErrNone,
		true, msg(api.MReject, 0, 0, 15), api.ErrNone, true, msg(api.MReject, 0, 0, 16), api.OK, true, msg(api.MReject, 0, 0, 16), api.ErrNone, false, msg(api.MRequest, 0, 0, 16), api.OK,
		false, msg(api.MCancel, 0, 0, 7), api.OK, false, msg(api.MCancel, 1, 16, 16), api.OK, false, msg(api.MRequest, 1, 16, 16), api.ErrDuplicate, true, msg(api.MUnchoke), api.OK)
	if l := s.Owed(true); !slices.Equal(l, []api.Choice{{Piece: 1, Begin: 16, Length: 16}}) || s.Choked(true) || !s.Choked(false) {
		t.Error(l)
	}
	steps(t, s, true, msg(api.MPiece, 0, 0, 16), api.OK, false, msg(api.MRequest, 0, 16, 16), api.OK, true, msg(api.MChoke), api.OK)
	if l := s.Owed(true); len(l) != 2 || len(s.Waiting(true)) != 2 {
		t.Error(l)
	}
	steps(t, s, true, msg(api.MPiece, 1, 16, 16), api.OK, true, msg(api.MPiece, 0, 16, 16), api.ErrState, true, msg(api.MReject, 0, 16, 16), api.OK, false, msg(api.MNot), api.OK)
	if len(s.Waiting(true)) != 0 || s.Wants(false) {
		t.Error("all are answered")
	}
	all := made(true)
	steps(t, all, false, msg(api.MAll), api.OK, false, msg(api.MHave, 3), api.OK, true, msg(api.MRequest, 3, 0, 1), api.ErrKind)
	if f, _ := bits.Full(10); all.Field(false) != f {
		t.Error("all")
	}
}

func TestRulesSlow(t *testing.T) {
	s := made(false)
	steps(t, s,
		true, msg(api.MAll), api.ErrKind, true, msg(api.MNone), api.ErrKind, true, msg(api.MSuggest, 0), api.ErrKind, true, msg(api.MAllowed, 99), api.ErrKind, true, msg(api.MReject, 0, 0, 1), api.ErrKind,
		true, msg(api.MExtended), api.OK, true, api.Msg{Kind: api.MBits, Data: "\x80\x00"}, api.OK, false, msg(api.MHave, 0), api.OK, false, api.Msg{Kind: api.MBits, Data: "\x80\x00"}, api.ErrKind,
		// A request while choked never waits.
		false, msg(api.MRequest, 0, 0, 16), api.OK, false, msg(api.MRequest, 0, 0, 16), api.OK, false, msg(api.MRequest, 1, 0, 16), api.ErrState, true, msg(api.MPiece, 0, 0, 16), api.ErrState,
		true, msg(api.MUnchoke), api.OK, true, msg(api.MPiece, 0, 0, 16), api.ErrNone, false, msg(api.MRequest, 0, 0, 16), api.OK, false, msg(api.MRequest, 0, 0, 16), api.ErrDuplicate, false, msg(api.MRequest, 0, 16, 16), api.OK,
		false, msg(api.MCancel, 0, 0, 16), api.OK, true, msg(api.MPiece, 0, 0, 16), api.ErrNone)
	if l := s.Waiting(true); !slices.Equal(l, []api.Choice{{Piece: 0, Begin: 16, Length: 16}}) || len(s.Owed(true)) != 0 {
		t.Error(l)
	}
	steps(t, s, true, msg(api.MChoke), api.OK)
	if len(s.Waiting(true)) != 0 {
		t.Error("dropped by a choke")
	}
	one, _ := New(1, 32, 20, 3, false)
	steps(t, one, true, msg(api.MHave, 0), api.OK, true, msg(api.MUnchoke), api.OK, false, msg(api.MRequest, 0, 16, 4), api.OK, false, msg(api.MRequest, 0, 16, 5), api.ErrRange)
}

// random is a message by draws.
func random(seed string, k int) (bool, api.Msg) {
	d := func(i, n int) int {
		v, _ := hash.Draw(seed, 10*k+i, n)
		return v
	}
	kinds := []int{api.MKeep, api.MChoke, api.MUnchoke, api.MUnchoke, api.MInterested, api.MHave, api.MHave, api.MRequest, api.MRequest, api.MRequest, api.MPiece, api.MPiece, api.MCancel, api.MReject, api.MAllowed, api.MSuggest, api.MAll, api.MNone, api.MBits, api.MExtended}
	kind := kinds[d(0, len(kinds))]
	out := d(1, 2) == 0
	switch kind {
	case api.MHave, api.MAllowed, api.MSuggest:
		return out, msg(kind, d(2, 11))
	case api.MRequest, api.MCancel, api.MReject, api.MPiece:
		return out, msg(kind, d(2, 3), 16*d(3, 2), 16)
	case api.MBits:
		return out, api.Msg{Kind: kind, Data: "\xe0\x00"}
	}
	return out, msg(kind)
}

func TestP212Answered(t *testing.T) {
	for run := range 20 {
		s := made(true)
		taken := map[bool]map[api.Choice]int{true: {}, false: {}}
		for k := range 400 {
			out, m := random("answered"+strconv.Itoa(run), k)
			if s.Step(out, m) != api.OK {
				continue
			}
			c := api.Choice{Piece: m.Index, Begin: m.Begin, Length: 16}
			switch m.Kind {
			case api.MRequest:
				taken[!out][c]++
			case api.MPiece, api.MReject:
				taken[out][c]--
			}
			for _, side := range []bool{true, false} {
				n := 0
				for c, left := range taken[side] {
					if left < 0 || left > 1 || (left == 1) != slices.Contains(s.Waiting(side), c) {
						t.Error("answered", c, left)
					}
					n += left
				}
				if n != len(s.Waiting(side)) {
					t.Error("waiting")
				}
			}
		}
	}
}

func TestP213Sides(t *testing.T) {
	for _, fast := range []bool{true, false} {
		for run := range 20 {
			a, b := made(fast), made(fast)
			for k := range 300 {
				out, m := random("sides"+strconv.Itoa(run), k)
				if a.Step(out, m) != b.Step(!out, m) {
					t.Error("errors")
				}
				for _, o := range []bool{true, false} {
					if a.Field(o) != b.Field(!o) || a.Choked(o) != b.Choked(!o) || a.Wants(o) != b.Wants(!o) || !slices.Equal(a.Waiting(o), b.Waiting(!o)) || !slices.Equal(a.Allowed(o), b.Allowed(!o)) || !slices.Equal(a.Owed(o), b.Owed(!o)) || a.Begun(o) != b.Begun(!o) {
						t.Error("state")
					}
				}
			}
		}
	}
}

func TestP214Allowed(t *testing.T) {
	six := api.Addr{Family: 6, IP: "\x20\x01\x02\x03\x04\x05\x06\x07\x08\x09\x0a\x0b\x0c\x0d\x0e\x0f", Port: 1}
	for _, n := range []int{1, 3, 10, 1000, api.MaxBits} {
		for _, c := range []int{0, 4} {
			a, _ := addr.V4(80, 4, 4, 200+c, 1)
			var long []int
			for _, k := range []int{4096, 100, 10, 7, 1, 0} {
				l, e := Allowed(a, name(), n, k)
				if e != api.OK || len(l) != min(k, n) {
					t.Error(n, k, len(l), e)
				}
				if k == 4096 {
					long = l
				}
				if !slices.Equal(l, long[:len(l)]) {
					t.Error("beginnings")
				}
				s := slices.Clone(l)
				slices.Sort(s)
				if len(slices.Compact(s)) != len(l) || len(l) > 0 && (s[0] < 0 || s[len(s)-1] >= n) {
					t.Error("different")
				}
			}
		}
		a, _ := addr.V4(80, 4, 4, 200, 1)
		b, _ := addr.V4(80, 4, 4, 7, 9)
		c, _ := addr.V4(80, 4, 5, 7, 9)
		x, _ := Allowed(a, name(), n, 9)
		y, _ := Allowed(b, name(), n, 9)
		z, _ := Allowed(c, name(), n, 9)
		if !slices.Equal(x, y) || n >= 1000 && slices.Equal(x, z) {
			t.Error("networks", n)
		}
	}
	first := func(x string, n int) int {
		h := hash.Old(x)
		return int(uint32(h[0])<<24|uint32(h[1])<<16|uint32(h[2])<<8|uint32(h[3])) % n
	}
	a, _ := addr.V4(80, 4, 4, 200, 1)
	if l, _ := Allowed(a, name(), 1000, 1); l[0] != first("\x50\x04\x04\x00"+name(), 1000) {
		t.Error(l)
	}
	if l, _ := Allowed(six, name(), 1000, 1); l[0] != first(six.IP[:7]+"\x00"+name(), 1000) {
		t.Error(l)
	}
}

func TestP215Refused(t *testing.T) {
	for _, fast := range []bool{true, false} {
		for run := range 10 {
			s := made(fast)
			for k := range 300 {
				out, m := random("refused"+strconv.Itoa(run), k)
				steps(t, s, out, m, s.May(out, m))
			}
		}
	}
	a := made(true)
	b := a.Copy()
	b.Step(true, msg(api.MAll))
	b.Step(true, msg(api.MAllowed, 1))
	b.Step(false, msg(api.MNone))
	b.Step(false, msg(api.MRequest, 1, 0, 1))
	if a.Begun(true) || len(a.Allowed(true)) != 0 || a.Field(true) != "\x00\x00" || len(a.Waiting(true)) != 0 || len(b.Waiting(true)) != 1 {
		t.Error("a copy is one of its own")
	}
}
