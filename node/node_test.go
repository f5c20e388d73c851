package node

import (
	"math"
	"math/big"
	"slices"
	"strconv"
	"strings"
	"testing"

	"covey/addr"
	"covey/api"
	"covey/hash"
)

func ids() []string {
	l := []string{strings.Repeat("\x00", 20), strings.Repeat("\xff", 20), strings.Repeat("\x00", 19) + "\x01"}
	for i := range 8 {
		l = append(l, hash.Old(strconv.Itoa(i)))
	}
	x, _ := Flip(l[4], 159)
	y, _ := Flip(l[4], 12)
	return append(l, x, y)
}

func nodes() []api.Node {
	var l []api.Node
	for i, id := range ids() {
		a, _ := addr.V4(10, 0, 0, i, 80)
		if i%3 == 0 {
			a = api.Addr{Family: 6, IP: strings.Repeat("a", 16), Port: 80 + i}
		}
		l = append(l, api.Node{ID: id, Addr: a})
		if i%4 == 0 {
			a.Port++
			l = append(l, api.Node{ID: id, Addr: a})
		}
	}
	return l
}

func number(id string) *big.Int { return new(big.Int).SetBytes([]byte(id)) }

func TestP121Errors(t *testing.T) {
	good := ids()[3]
	n := nodes()[0]
	for _, bad := range []string{"", good[1:], good + "x"} {
		_, e1 := Distance(good, bad)
		_, e2 := Common(bad, good)
		_, e3 := Nearer(good, good, bad)
		_, e4 := Compare(bad, n, n)
		_, e5 := Sorted(bad, nil)
		_, e6 := Nearest(good, []api.Node{{ID: bad, Addr: n.Addr}}, -1)
		_, e7 := Bit(bad, 900)
		_, e8 := Flip(bad, 900)
		_, e9 := Prefix(bad, 900)
		_, e10 := Within(good, bad, 900)
		_, e11 := In(bad, 900, "", -1)
		_, e12 := Middle(good, bad)
		_, e13 := Next(bad)
		_, _, e14 := Pack([]api.Node{n, {ID: bad, Addr: n.Addr}})
		_, e15 := Compare(good, n, api.Node{ID: good})
		for i, e := range []api.Errno{e1, e2, e3, e4, e5, e6, e7, e8, e9, e10, e11, e12, e13, e14, e15} {
			if e != api.ErrInvalid || Valid(bad) {
				t.Error(i, e)
			}
		}
	}
	for _, i := range []int{-1, 160, math.MaxInt, math.MinInt} {
		_, e1 := Bit(good, i)
		_, e2 := Flip(good, i)
		if e1 != api.ErrRange || e2 != api.ErrRange {
			t.Error(i, e1, e2)
		}
		if i == 160 {
			continue
		}
		_, e3 := Prefix(good, i)
		_, e4 := Within(good, good, i)
		_, e5 := In(good, i, "", 0)
		if e3 != api.ErrRange || e4 != api.ErrRange || e5 != api.ErrRange {
			t.Error(i, e3, e4, e5)
		}
	}
	long := strings.Repeat("x", 101)
	if _, e := Random(long, -1); e != api.ErrInvalid {
		t.Error(e)
	}
	if _, e := In(good, 0, long, 0); e != api.ErrInvalid {
		t.Error(e)
	}
	if _, e := Random("", -1); e != api.ErrRange {
		t.Error(e)
	}
	if _, e := In(good, 0, "", -1); e != api.ErrRange {
		t.Error(e)
	}
	if _, e := Nearest(good, nil, -1); e != api.ErrRange {
		t.Error(e)
	}
	if _, e := Unpack("x", 5); e != api.ErrRange {
		t.Error(e)
	}
	if ValidNode(api.Node{}) || !ValidNode(n) || ValidNode(api.Node{ID: good}) {
		t.Error("ValidNode")
	}
}

func TestP122Distance(t *testing.T) {
	for i, a := range ids() {
		for j, b := range ids() {
			d, e := Distance(a, b)
			r, _ := Distance(b, a)
			if e != api.OK || d != r || (strings.Trim(d, "\x00") == "") != (i == j) {
				t.Error(i, j)
			}
			if number(d).Cmp(new(big.Int).Xor(number(a), number(b))) != 0 {
				t.Error("xor", i, j)
			}
			for _, c := range ids() {
				x, _ := Distance(b, c)
				y, _ := Distance(a, c)
				if z, _ := Distance(d, x); z != y {
					t.Error("triangle")
				}
				near, _ := Nearer(a, b, c)
				if near != (number(d).Cmp(number(y)) < 0) {
					t.Error("Nearer")
				}
			}
		}
	}
}

func TestP123One(t *testing.T) {
	for _, target := range ids() {
		for _, a := range ids() {
			d, _ := Distance(target, a)
			if x, _ := Distance(target, d); x != a {
				t.Error("one")
			}
			m, e := Middle(target, a)
			want := new(big.Int).Add(number(target), number(a))
			if e != api.OK || number(m).Cmp(want.Rsh(want, 1)) != 0 {
				t.Error("Middle")
			}
		}
		n, e := Next(target)
		want := new(big.Int).Add(number(target), big.NewInt(1))
		want.And(want, number(ids()[1]))
		if e != api.OK || number(n).Cmp(want) != 0 {
			t.Error("Next")
		}
	}
	if r, _ := Random("s", 12); r != hash.Old("s:12") {
		t.Error("Random")
	}
}

func TestP124Order(t *testing.T) {
	l := nodes()
	for _, target := range ids() {
		s, e := Sorted(target, append(slices.Clone(l), l...))
		if len(s) != len(l) || e != api.OK {
			t.Error("Sorted", len(s), e)
		}
		for i, a := range s {
			for j, b := range s {
				c, e := Compare(target, a, b)
				if c != min(1, max(-1, i-j)) || e != api.OK {
					t.Error("Compare", i, j, c)
				}
				near, _ := Nearer(target, a.ID, b.ID)
				if near && c >= 0 {
					t.Error("Nearer", i, j)
				}
				if a.ID == b.ID {
					if x, _ := addr.Compare(a.Addr, b.Addr); x != c {
						t.Error("addresses")
					}
				}
			}
		}
		for _, n := range []int{0, 1, 5, 100} {
			got, e := Nearest(target, l, n)
			if !slices.Equal(got, s[:min(n, len(s))]) || e != api.OK {
				t.Error("Nearest", n)
			}
		}
	}
	if !Same(l[0], l[0]) || Same(l[0], l[1]) {
		t.Error("Same")
	}
}

func TestP125Common(t *testing.T) {
	for _, target := range ids() {
		for _, a := range ids() {
			x, _ := Common(target, a)
			for i := range 160 {
				p, _ := Bit(target, i)
				q, _ := Bit(a, i)
				if i < x && p != q || i == x && p == q {
					t.Error("Common", i, x)
				}
				f, e := Flip(a, i)
				if r, _ := Bit(f, i); r == q || e != api.OK {
					t.Error("Flip")
				}
			}
			for _, b := range ids() {
				y, _ := Common(target, b)
				if near, _ := Nearer(target, a, b); x > y && !near {
					t.Error("more common bits are nearer")
				}
			}
			for bits := range 161 {
				w, _ := Within(a, target, bits)
				if w != (x >= bits) {
					t.Error("Within", bits, x)
				}
				p, _ := Prefix(a, bits)
				c, _ := Common(p, a)
				if c < bits || number(p).TrailingZeroBits() < uint(160-bits) && strings.Trim(p, "\x00") != "" {
					t.Error("Prefix", bits)
				}
				in, _ := In(a, bits, "seed", 3)
				r, _ := Random("seed", 3)
				if w, _ := Within(in, a, bits); !w {
					t.Error("In", bits)
				}
				for i := bits; i < 160; i++ {
					u, _ := Bit(in, i)
					v, _ := Bit(r, i)
					if u != v {
						t.Error("In", bits, i)
					}
				}
			}
		}
	}
	a := ids()[4]
	b, _ := Flip(a, 159)
	if c, _ := Common(a, b); c != 159 {
		t.Error(c)
	}
}

func TestP126Back(t *testing.T) {
	l := nodes()
	four, six, e := Pack(l)
	if e != api.OK {
		t.Error(e)
	}
	a, e := Unpack(four, 4)
	b, f := Unpack(six, 6)
	var x, y []api.Node
	for _, n := range l {
		if n.Addr.Family == 4 {
			x = append(x, n)
		} else {
			y = append(y, n)
		}
	}
	if !slices.Equal(a, x) || !slices.Equal(b, y) || e != api.OK || f != api.OK || len(y) == 0 {
		t.Error("Unpack", e, f)
	}
	if _, e := Unpack(four[1:], 4); e != api.ErrSize {
		t.Error(e)
	}
	if l, e := Unpack(four[:24]+"\x00\x00", 4); e != api.ErrData || len(l) != 0 {
		t.Error(e)
	}
}
