package addr

import (
	"math"
	"slices"
	"strings"
	"testing"

	"covey/api"
	"covey/hash"
)

func v6(ip string, port int) api.Addr {
	return api.Addr{Family: 6, IP: strings.Repeat("\x00", 16-len(ip)) + ip, Port: port}
}

func v4(a, b, c, d, port int) api.Addr {
	x, e := V4(a, b, c, d, port)
	if e != api.OK {
		panic(e)
	}
	return x
}

func addrs() []api.Addr {
	return []api.Addr{
		v4(10, 0, 0, 1, 80), v4(0, 0, 0, 0, 1), v4(255, 255, 255, 255, 65535), v4(8, 8, 8, 8, 53), v4(8, 8, 8, 9, 53), v4(8, 8, 8, 8, 54),
		v4(127, 3, 2, 1, 9), v6("", 1), v6("\x01", 2), v6("\xfc\x00\x00\x00\x00\x00\x00\x00\x12\x34\x00\x0a\x00\xa0\x00\x00", 300), v6("\x20\x01\x0d\xb8\x00\x00\x00\x00\x00\x00\x00\x00\x00\x00\x00\x07", 65535),
	}
}

func invalid() []api.Addr {
	return []api.Addr{{}, {Family: 5, IP: "abcd", Port: 1}, {Family: 4, IP: "abc", Port: 1}, {Family: 4, IP: "abcd"}, {Family: 4, IP: "abcd", Port: 65536}, {Family: 6, IP: "abcd", Port: 1}, {Family: 4, IP: "abcd", Port: -1}}
}

func TestP71Errors(t *testing.T) {
	good := addrs()[0]
	for _, a := range invalid() {
		if Valid(a) {
			t.Error("Valid", a)
		}
		_, e1 := Text(a)
		_, e2 := Pack(a)
		_, e3 := PackAll([]api.Addr{good, a}, 5)
		_, e4 := Kind(a)
		_, e5 := Compare(good, a)
		_, e6 := Sort([]api.Addr{good, a})
		_, e7 := Mask(a)
		_, e8 := Node(a, "", 999)
		_, e9 := Secure(strings.Repeat("x", 20), a)
		_, e10 := Near(good, a)
		for i, e := range []api.Errno{e1, e2, e3, e4, e5, e6, e7, e8, e9, e10} {
			if e != api.ErrInvalid {
				t.Error(i, a, e)
			}
		}
	}
	long := strings.Repeat("x", api.MaxText+1)
	if _, e := Parse(long); e != api.ErrLong {
		t.Error("Parse", e)
	}
	if _, e := UnpackAll(long, 9); e != api.ErrLong {
		t.Error("UnpackAll", e)
	}
	if _, e := Unpack(long); e != api.ErrLong {
		t.Error("Unpack", e)
	}
	if _, e := Secure("x", good); e != api.ErrInvalid {
		t.Error("Secure", e)
	}
	for _, r := range []int{-1, 256, math.MinInt} {
		if _, e := Node(good, "s", r); e != api.ErrRange {
			t.Error("Node", e)
		}
	}
	if _, e := PackAll(nil, 5); e != api.ErrRange {
		t.Error("PackAll", e)
	}
	if _, e := UnpackAll("x", 0); e != api.ErrRange {
		t.Error("UnpackAll", e)
	}
	for _, c := range [][5]int{{-1, 0, 0, 0, 1}, {0, 256, 0, 0, 1}, {0, 0, 0, 0, 0}, {0, 0, 0, 0, 65536}} {
		if a, e := V4(c[0], c[1], c[2], c[3], c[4]); e != api.ErrRange || a != (api.Addr{}) {
			t.Error("V4", c, e)
		}
	}
	if _, e := Near(good, addrs()[8]); e != api.ErrKind {
		t.Error("Near", e)
	}
}

func TestP72Back(t *testing.T) {
	l := addrs()
	for _, a := range l {
		s, e := Text(a)
		x, f := Parse(s)
		if x != a || e != api.OK || f != api.OK {
			t.Error("Text", s, e, f)
		}
		p, e := Pack(a)
		x, f = Unpack(p)
		if x != a || e != api.OK || f != api.OK {
			t.Error("Pack", s, e, f)
		}
	}
	for _, family := range []int{4, 6} {
		p, _ := PackAll(l, family)
		got, e := UnpackAll(p, family)
		var want []api.Addr
		for _, a := range l {
			if a.Family == family {
				want = append(want, a)
			}
		}
		if !slices.Equal(got, want) || e != api.OK {
			t.Error("UnpackAll", family, e)
		}
		if _, e := UnpackAll(p+"x", family); e != api.ErrSize {
			t.Error("UnpackAll", e)
		}
		if got, e := UnpackAll(p[:len(p)-2]+"\x00\x00", family); e != api.ErrData || len(got) != 0 {
			t.Error("UnpackAll", e)
		}
	}
	if s, _ := Text(l[9]); s != "[fc00:0:0:0:1234:a:a0:0]:300" {
		t.Error("Text", s)
	}
	if p, _ := Pack(l[0]); p != "\x0a\x00\x00\x01\x00\x50" {
		t.Errorf("Pack %q", p)
	}
	for s, want := range map[string]api.Errno{"": api.ErrSize, "12345": api.ErrSize, "1234567": api.ErrSize, "1234\x00\x00": api.ErrData, "1234567890123456\x00\x00": api.ErrData} {
		if _, e := Unpack(s); e != want {
			t.Error("Unpack", s, e)
		}
	}
	for _, s := range []string{"", "10.0.0.1", "10.0.0.1:", "10.0.0.1:0", "10.0.0.1:65536", "10.0.0.1:080", "10.0.0.01:80", "10.0.0.256:80", "10.0.0:80", "10.0.0.1.1:80", " 10.0.0.1:80", "10.0.0.+1:80", "10.0.0.1:+80", "10.0.0.:80",
		"[1:2:3:4:5:6:7]:8", "[1:2:3:4:5:6:7:8:9]:8", "[1:2:3:4:5:6:7:08]:8", "[1:2:3:4:5:6:7:A]:8", "[1:2:3:4:5:6:7:]:8", "[::1]:8", "1:2:3:4:5:6:7:8:8", "[1:2:3:4:5:6:7:8:8", "[1:2:3:4:5:6:7:8]8", "[1:2:3:4:5:6:7:8]:", "[1:2:3:4:5:6:7:10000]:8", "[1:2:3:4:5:6:7:8]]:8", "a]:8", "[]:8", "10.0.0.1:8:0"} {
		if a, e := Parse(s); e != api.ErrSyntax || a != (api.Addr{}) {
			t.Error("Parse", s, e)
		}
	}
}

func TestP73Order(t *testing.T) {
	l := append(addrs(), addrs()...)
	slices.Reverse(l)
	s, e := Sort(l)
	if len(s) != len(addrs()) || e != api.OK {
		t.Error("Sort", len(s), e)
	}
	for i, a := range s {
		if !slices.Contains(l, a) {
			t.Error("Sort")
		}
		for k, b := range s {
			c, e := Compare(a, b)
			if want := min(1, max(-1, i-k)); c != want || e != api.OK {
				t.Error("Compare", i, k, c, e)
			}
		}
	}
	if s[0] != v4(0, 0, 0, 0, 1) || s[len(s)-1].Family != 6 {
		t.Error("Sort", s)
	}
	for a, want := range map[api.Addr]int{
		v4(0, 0, 0, 0, 1): api.ANone, v4(224, 0, 0, 1, 1): api.ANone, v4(223, 0, 0, 1, 1): api.APublic, v4(0, 0, 0, 1, 1): api.APublic, v4(127, 9, 9, 9, 1): api.AOwn,
		v4(10, 1, 2, 3, 1): api.ANear, v4(192, 168, 0, 0, 1): api.ANear, v4(192, 169, 0, 0, 1): api.APublic, v4(169, 254, 0, 0, 1): api.ANear, v4(172, 15, 0, 0, 1): api.APublic,
		v4(172, 16, 0, 0, 1): api.ANear, v4(172, 31, 0, 0, 1): api.ANear, v4(172, 32, 0, 0, 1): api.APublic, v6("", 1): api.ANone, v6("\x01", 1): api.AOwn, v6("\x02", 1): api.APublic,
		v6("\xff"+strings.Repeat("a", 15), 1): api.ANone, v6("\xfd"+strings.Repeat("a", 15), 1): api.ANear, v6("\xfe\x80"+strings.Repeat("a", 14), 1): api.ANear,
		v6("\xfe\xbf"+strings.Repeat("a", 14), 1): api.ANear, v6("\xfe\xc0"+strings.Repeat("a", 14), 1): api.APublic, v6("\xfe\x7f"+strings.Repeat("a", 14), 1): api.APublic,
	} {
		if k, e := Kind(a); k != want || e != api.OK {
			t.Error("Kind", a, k, want)
		}
	}
}

func TestP74Secure(t *testing.T) {
	for _, a := range addrs() {
		m, _ := Mask(a)
		kind, _ := Kind(a)
		for _, r := range []int{0, 1, 7, 8, 255} {
			id, e := Node(a, "seed", r)
			if ok, f := Secure(id, a); !ok || e != api.OK || f != api.OK || len(id) != 20 {
				t.Error("Node", a, r, e, f)
			}
			h := hash.Sum(m + string([]byte{byte(r % 8)}))
			s := hash.Sum("seed")
			if id[:2] != h[:2] || id[2]>>3 != h[2]>>3 || id[2]&7 != s[2]&7 || id[3:19] != s[3:19] || id[19] != byte(r) {
				t.Error("bits", a, r)
			}
			for bit := range 24 {
				b := []byte(id)
				b[bit/8] ^= 128 >> (bit % 8)
				ok, _ := Secure(string(b), a)
				if want := bit >= 21 || kind == api.ANear || kind == api.AOwn; ok != want {
					t.Error("Secure", a, bit, ok)
				}
			}
		}
	}
	a, b := v4(200, 100, 50, 25, 1), v4(200+4-8, 100+16, 50+64, 25, 9)
	x, _ := Mask(a)
	y, _ := Mask(b)
	if x != y || x != "\x00\x04\x32\x19" {
		t.Errorf("Mask %q %q", x, y)
	}
	i, _ := Node(a, "s", 3)
	if ok, _ := Secure(i, b); !ok {
		t.Error("one masked IP")
	}
	if m, _ := Mask(v6(strings.Repeat("\xff", 16), 1)); m != "\x01\x03\x07\x0f\x1f\x3f\x7f\xff" {
		t.Errorf("Mask %q", m)
	}
}

func TestP75Near(t *testing.T) {
	var l []api.Addr
	for _, a := range addrs() {
		n, e := Near(a, a)
		if n != 8*len(a.IP) || e != api.OK {
			t.Error("Near", n, e)
		}
		if a.Family == 4 {
			l = append(l, a)
		}
	}
	for _, a := range l {
		for _, b := range l {
			for _, c := range l {
				x, _ := Near(a, b)
				y, _ := Near(b, c)
				z, _ := Near(c, a)
				s := []int{x, y, z}
				slices.Sort(s)
				if s[0] != s[1] {
					t.Error("Near", s)
				}
			}
		}
	}
	if n, _ := Near(v4(8, 8, 8, 8, 1), v4(8, 8, 8, 9, 1)); n != 31 {
		t.Error("Near", n)
	}
}
