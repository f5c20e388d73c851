package sign

import (
	"math"
	"math/big"
	"strconv"
	"strings"
	"testing"

	"covey/api"
	"covey/hash"
)

func secrets() []int { return []int{1, 2, 36, 1000000007, 1 << 60, prime - 2} }

func TestP81Errors(t *testing.T) {
	long := strings.Repeat("x", api.MaxText+1)
	for _, x := range []int{math.MinInt, -1, 0, prime - 1, math.MaxInt} {
		if _, e := Key(x); e != api.ErrRange {
			t.Error("Key", x, e)
		}
		if _, e := Sign(x, "t"); e != api.ErrRange {
			t.Error("Sign", x, e)
		}
		if _, e := Make(x, "", 0, "le"); e != api.ErrRange {
			t.Error("Make", x, e)
		}
		if _, e := Shared(x, "12345678"); e != api.ErrInvalid {
			t.Error("Shared", x, e)
		}
		if _, e := Shared(x, pack(5)); e != api.ErrRange {
			t.Error("Shared", x, e)
		}
	}
	if _, e := Sign(0, long); e != api.ErrLong {
		t.Error("Sign", e)
	}
	for _, x := range []int{-1, prime, math.MinInt} {
		if _, e := Times(1, x); e != api.ErrRange {
			t.Error("Times", e)
		}
		if _, e := Power(x, 1); e != api.ErrRange {
			t.Error("Power", e)
		}
		if _, e := Power(1, x); e != api.ErrRange {
			t.Error("Power", e)
		}
	}
	good, _ := Make(5, "salt", 7, "i1e")
	for k, c := range []struct {
		f    func(i *api.Item)
		part string
		e    api.Errno
	}{
		{func(i *api.Item) { i.Key = "x"; i.Salt = long }, "key", api.ErrInvalid}, {func(i *api.Item) { i.Key = pack(0) }, "key", api.ErrInvalid},
		{func(i *api.Item) { i.Key = pack(prime) }, "key", api.ErrInvalid}, {func(i *api.Item) { i.Salt = strings.Repeat("x", 65); i.Number = -1 }, "salt", api.ErrLong},
		{func(i *api.Item) { i.Number = -1; i.Value = "" }, "number", api.ErrRange}, {func(i *api.Item) { i.Number = 1<<40 + 1 }, "number", api.ErrRange},
		{func(i *api.Item) { i.Value = strings.Repeat("x", 1001) }, "value", api.ErrLong}, {func(i *api.Item) { i.Value = "" }, "value", api.ErrSyntax},
		{func(i *api.Item) { i.Value = strings.Repeat("l", 13) + strings.Repeat("e", 13) }, "value", api.ErrLimit}, {func(i *api.Item) { i.Sign = "x" }, "sign", api.ErrSign},
		{func(i *api.Item) { i.Number++ }, "sign", api.ErrSign}, {func(i *api.Item) {}, "", api.OK},
	} {
		i := good
		c.f(&i)
		part, e := Wrong(i)
		if part != c.part || e != c.e || Valid(i) != (e == api.OK) {
			t.Error("Wrong", k, part, e)
		}
		if form := e == api.OK || e == api.ErrSign; !form {
			if _, e := Text(i); e != api.ErrInvalid {
				t.Error("Text", k, e)
			}
			if e := Replace(i, good, -1); e != api.ErrInvalid {
				t.Error("Replace", k, e)
			}
			if e := Replace(good, i, -1); e != api.ErrInvalid {
				t.Error("Replace", k, e)
			}
			if _, e := Latest([]api.Item{good, i}); e != api.ErrInvalid {
				t.Error("Latest", k, e)
			}
		}
	}
	if _, e := Make(0, strings.Repeat("x", 65), -1, ""); e != api.ErrLong {
		t.Error("Make", e)
	}
	if _, e := Make(0, "", -1, ""); e != api.ErrInvalid {
		t.Error("Make", e)
	}
	if _, e := Make(1, "", 1<<40+1, "le"); e != api.ErrRange {
		t.Error("Make", e)
	}
	if _, e := Place("x", strings.Repeat("x", 65)); e != api.ErrLong {
		t.Error("Place", e)
	}
	if _, e := Place("x", ""); e != api.ErrInvalid {
		t.Error("Place", e)
	}
	if p, e := Place(good.Key, "s"); p != hash.Old(good.Key+"s") || e != api.OK {
		t.Error("Place", e)
	}
	if _, e := Plain(strings.Repeat("x", 1001)); e != api.ErrLong {
		t.Error("Plain", e)
	}
	if _, e := Plain("i01e"); e != api.ErrSyntax {
		t.Error("Plain", e)
	}
	if p, e := Plain("i1e"); p != hash.Old("i1e") || e != api.OK {
		t.Error("Plain", e)
	}
}

// slow signs a text as the chapter tells it, with great numbers.
func slow(x int, text string) string {
	p := big.NewInt(prime)
	g := big.NewInt(37)
	n, _ := hash.Number(hash.Sum("k:"+strconv.Itoa(x)+":"+text), prime-2)
	k := big.NewInt(int64(n) + 1)
	r := pack(new(big.Int).Exp(g, k, p).Uint64())
	y := pack(new(big.Int).Exp(g, big.NewInt(int64(x)), p).Uint64())
	c, _ := hash.Number(hash.Sum(r+y+text), prime-1)
	s := new(big.Int).Mul(big.NewInt(int64(c)), big.NewInt(int64(x)))
	s.Add(s, k).Mod(s, big.NewInt(prime-1))
	return r + pack(s.Uint64())
}

func TestP82Signed(t *testing.T) {
	for _, x := range secrets() {
		key, e := Key(x)
		if !ValidKey(key) || e != api.OK {
			t.Error("Key", x, e)
		}
		for _, text := range []string{"", "a", strings.Repeat("x", api.MaxText)} {
			s, e := Sign(x, text)
			if s != slow(x, text) || e != api.OK || !Fits(key, text, s) {
				t.Error("Sign", x, len(text), e)
			}
			if Fits(key, text+"x", s) || Fits(key, text, s[1:]) || Fits(key[1:], text, s) || Fits(key, text, s[:8]+pack(prime-1)) || Fits(key, text, pack(0)+s[8:]) {
				t.Error("Fits", x, len(text))
			}
		}
		for _, salt := range []string{"", "salt", strings.Repeat("s", 64)} {
			i, e := Make(x, salt, 1<<40, "2:ab")
			if !Valid(i) || e != api.OK || i.Key != key || i.Salt != salt {
				t.Error("Make", x, e)
			}
		}
	}
	i, _ := Make(3, "ab", 12, "le")
	if s, _ := Text(i); s != "4:salt2:ab3:seqi12e1:vle" {
		t.Error("Text", s)
	}
	i, _ = Make(3, "", 0, "le")
	if s, _ := Text(i); s != "3:seqi0e1:vle" {
		t.Error("Text", s)
	}
	if k, _ := Key(1); k != "\x00\x00\x00\x00\x00\x00\x00\x25" {
		t.Errorf("Key %q", k)
	}
}

func TestP83Powers(t *testing.T) {
	if n, _ := Power(37, 2); n != 1369 {
		t.Error("Power", n)
	}
	if n, _ := Power(0, 0); n != 1 {
		t.Error("Power", n)
	}
	for _, b := range []int{0, 1, 2, 37, 1 << 59, prime - 1} {
		if n, _ := Power(b, prime-1); (n == 1) != (b > 0) {
			t.Error("Power", b, n)
		}
		for _, m := range []int{0, 1, 5, 1 << 50, prime / 2} {
			for _, n := range []int{0, 1, 77, prime / 3} {
				x, _ := Power(b, m)
				y, _ := Power(b, n)
				z, e := Power(b, m+n)
				if xy, f := Times(x, y); xy != z || e != api.OK || f != api.OK {
					t.Error("Power", b, m, n)
				}
			}
		}
	}
}

func TestP84Up(t *testing.T) {
	var l []api.Item
	for number := range 3 {
		for _, value := range []string{"i0e", "i1e"} {
			i, _ := Make(9, "s", number, value)
			l = append(l, i)
		}
	}
	for _, a := range l {
		for _, b := range l {
			e := Replace(a, b, -1)
			want := api.OK
			if b.Number < a.Number || b.Number == a.Number && a.Value != b.Value {
				want = api.ErrOld
			}
			if e != want {
				t.Error("Replace", a.Number, b.Number, e)
			}
			if e == api.OK && Replace(b, a, -1) == api.OK && (a.Number != b.Number || a.Value != b.Value) {
				t.Error("both ways")
			}
			if e := Replace(a, b, a.Number); e != want {
				t.Error("expected", e)
			}
			if e := Replace(a, b, a.Number+1); e != api.ErrState {
				t.Error("expected", e)
			}
			for _, c := range l {
				if e == api.OK && Replace(b, c, -1) == api.OK && Replace(a, c, -1) != api.OK {
					t.Error("goes on")
				}
			}
		}
	}
	unsigned := l[0]
	unsigned.Sign = ""
	if e := Replace(l[0], unsigned, 99); e != api.ErrSign {
		t.Error("Replace", e)
	}
	if e := Replace(unsigned, l[0], -1); e != api.OK {
		t.Error("the old one's signature is not asked", e)
	}
	other, _ := Make(9, "t", 5, "le")
	if e := Replace(l[0], other, 99); e != api.ErrKind {
		t.Error("Replace", e)
	}
	best := l[4]
	best.Sign = "x"
	if i, e := Latest([]api.Item{l[0], best, l[2], l[3]}); i != l[2] || e != api.OK {
		t.Error("Latest", i.Number, e)
	}
	if _, e := Latest([]api.Item{unsigned, other}); e != api.ErrKind {
		t.Error("Latest", e)
	}
	if _, e := Latest([]api.Item{unsigned}); e != api.ErrNone {
		t.Error("Latest", e)
	}
	if _, e := Latest(nil); e != api.ErrNone {
		t.Error("Latest", e)
	}
}

func TestP85Shared(t *testing.T) {
	for _, a := range secrets() {
		for _, b := range secrets() {
			x, _ := Key(a)
			y, _ := Key(b)
			s, e := Shared(a, y)
			r, f := Shared(b, x)
			if s != r || len(s) != 8 || e != api.OK || f != api.OK {
				t.Error("Shared", a, b)
			}
		}
	}
}
