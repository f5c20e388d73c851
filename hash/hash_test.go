package hash

import (
	"math"
	"strconv"
	"strings"
	"testing"

	"covey/api"
)

// slow is the digest as the chapter tells it, step by step.
func slow(s string) string {
	out := ""
	for k := range uint64(4) {
		h := uint64(14695981039346656037) + k*11400714819323198485
		for _, b := range []byte(s) {
			h = (h ^ uint64(b)) * 1099511628211
			h ^= h >> 29
		}
		h = (h ^ uint64(len(s))) * 1099511628211
		h ^= h >> 32
		h *= 1099511628211
		for i := 7; i >= 0; i-- {
			out += string([]byte{byte(h >> (8 * i))})
		}
	}
	return out
}

func texts() []string {
	return []string{"", "a", "abc", "\x00", "\xff\x80", strings.Repeat("covey", 1000)}
}

func TestP31Errors(t *testing.T) {
	var h *Hasher
	h.Add("x")
	if h.Sum() != "" || h.Len() != 0 || h.Copy() != nil {
		t.Error("nil Hasher")
	}
	if _, e := Number("1234567", 0); e != api.ErrInvalid {
		t.Error("Number", e)
	}
	if _, e := Number("12345678", 0); e != api.ErrRange {
		t.Error("Number", e)
	}
	if n, e := Number("\xff\xff\xff\xff\xff\xff\xff\xff..", 1000); n != 18446744073709551615%1000 || e != api.OK {
		t.Error("Number", n, e)
	}
	for _, c := range [][2]int{{-1, 5}, {0, 0}, {0, -1}, {math.MinInt, 1}} {
		if n, e := Draw("s", c[0], c[1]); n != 0 || e != api.ErrRange {
			t.Error("Draw", c, e)
		}
	}
	if n, _ := Draw("s", 12, 1000); true {
		if m, _ := Number(Sum("s:12"), 1000); m != n {
			t.Error("Draw", n, m)
		}
	}
	for _, c := range [][2]int{{-1, 5}, {0, -1}, {0, api.MaxText + 1}, {api.MaxText, 1}, {math.MaxInt, math.MaxInt}, {1, math.MaxInt}} {
		if s, e := Stream("k", c[0], c[1]); s != "" || e != api.ErrRange {
			t.Error("Stream", c, e)
		}
	}
	if _, e := Mask("a", ""); e != api.ErrSize {
		t.Error("Mask", e)
	}
	for _, s := range []string{"a", "AB", "0g", " 0", "0x"} {
		if x, e := FromHex(s); x != "" || e != api.ErrSyntax {
			t.Error("FromHex", s, e)
		}
	}
	if _, e := FromHex(strings.Repeat("0", api.MaxText+1)); e != api.ErrLong {
		t.Error("FromHex", e)
	}
}

func TestP32Pieces(t *testing.T) {
	for _, s := range texts() {
		if Sum(s) != slow(s) || Old(s) != slow("old:" + s)[:20] {
			t.Error("Sum", len(s))
		}
		for _, cut := range []int{1, 2, 3, 7, 1000} {
			h := New()
			var zero Hasher
			for i := 0; i < len(s); i += cut {
				part := s[i:min(len(s), i+cut)]
				h.Add(part)
				zero.Add(part)
				if h.Sum() != Sum(s[:h.Len()]) {
					t.Fatal("a beginning")
				}
			}
			c := h.Copy()
			h.Add("more")
			if c.Sum() != Sum(s) || zero.Sum() != Sum(s) || c.Len() != len(s) || h.Sum() != Sum(s+"more") {
				t.Error("Hasher", len(s), cut)
			}
		}
	}
	if Pair("a", "bc") != Sum("abc") || Chain([]string{"a", "b"}) != Sum(Sum("a")+Sum("b")) || Chain(nil) != Sum("") {
		t.Error("Pair, Chain")
	}
	if Zero() != strings.Repeat("\x00", 32) {
		t.Error("Zero")
	}
}

func TestP33Back(t *testing.T) {
	for _, s := range texts() {
		if x, e := FromHex(Hex(s)); x != s || e != api.OK || len(Hex(s)) != 2*len(s) {
			t.Error("Hex")
		}
		key, e := Stream("key", 5, len(s))
		a, f := Mask(s, key)
		b, g := Mask(a, key)
		if b != s || e != api.OK || f != api.OK || g != api.OK {
			t.Error("Mask")
		}
	}
	if Hex("\x00\xaf") != "00af" {
		t.Error("Hex")
	}
}

func TestP34Parts(t *testing.T) {
	whole := ""
	for k := range 10 {
		whole += Sum("key/" + strconv.Itoa(k))
	}
	for from := 0; from < 300; from += 7 {
		for count := 0; count+from <= 320; count += 5 {
			if s, e := Stream("key", from, count); s != whole[from:from+count] || e != api.OK {
				t.Fatal("Stream", from, count, e)
			}
		}
	}
	if s, e := Stream("", 0, api.MaxText); len(s) != api.MaxText || e != api.OK {
		t.Error("Stream", e)
	}
	if s, e := Stream("", api.MaxText, 0); s != "" || e != api.OK {
		t.Error("Stream", e)
	}
}

func TestP35Check(t *testing.T) {
	for _, s := range texts() {
		for _, d := range []string{Sum(s), Old(s)} {
			if !Check(s, d) {
				t.Error("Check")
			}
			for i := range 8 * len(d) {
				b := []byte(d)
				b[i/8] ^= 1 << (i % 8)
				if Check(s, string(b)) {
					t.Error("Check of another digest", i)
				}
			}
			if Check(s, d[1:]) || Check(s, "") || Check(s+"x", d) {
				t.Error("Check")
			}
		}
	}
}
