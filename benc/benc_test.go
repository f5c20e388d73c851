package benc

import (
	"math"
	"strings"
	"testing"

	"covey/api"
)

func dict(keys []string, kids ...api.Value) api.Value {
	v, e := Dict(keys, kids)
	if e != api.OK {
		panic("Dict")
	}
	return v
}

// nested is a list of so many levels.
func nested(levels int) api.Value {
	v := List()
	for range levels - 1 {
		v = List(v)
	}
	return v
}

// values are values and their canonical forms.
func values() map[string]api.Value {
	return map[string]api.Value{
		"i0e":                    Int(0),
		"i-3e":                   Int(-3),
		"i9223372036854775807e":  Int(math.MaxInt),
		"i-9223372036854775808e": Int(math.MinInt),
		"0:":                     Text(""),
		"10:0123456789":          Text("0123456789"),
		"le":                     List(),
		"de":                     dict(nil),
		"li1e1:ald1:xleeee":      List(Int(1), Text("a"), List(dict([]string{"x"}, List()))),
		"d1:ai-3e1:bl2:xyee":     dict([]string{"b", "a"}, List(Text("xy")), Int(-3)),
		"d0:0:1:\x00i7e1:\xffdee": dict([]string{"\xff", "", "\x00"}, dict(nil), Text(""),
			Int(7)),
		strings.Repeat("l", 12) + strings.Repeat("e", 12): nested(12),
	}
}

func TestP21Errors(t *testing.T) {
	shared := api.Value{Kind: api.BList}
	for range 40 {
		shared = api.Value{Kind: api.BList, Kids: []api.Value{shared, shared}}
	}
	wide := make([]api.Value, api.MaxItems)
	for i := range wide {
		wide[i] = Int(0)
	}
	invalid := []api.Value{
		{}, {Kind: 5}, {Kind: -1}, {Kind: api.BInt, S: "x"}, {Kind: api.BText, N: 1}, {Kind: api.BList, Keys: []string{"a"}},
		{Kind: api.BDict, Keys: []string{"a"}}, {Kind: api.BInt, Kids: []api.Value{{Kind: api.BInt}}},
		{Kind: api.BDict, Keys: []string{"a", "a"}, Kids: []api.Value{Int(1), Int(1)}},
		{Kind: api.BDict, Keys: []string{"b", "a"}, Kids: []api.Value{Int(1), Int(1)}},
		nested(13), shared, List(wide...), Text(strings.Repeat("x", 65531)), List(Text(""), api.Value{}),
	}
	for i, v := range invalid {
		if Valid(v) {
			t.Error("Valid", i)
		}
		if s, e := Format(v); s != "" || e != api.ErrInvalid {
			t.Error("Format", i, e)
		}
		if _, e := Get(v, nil); e != api.ErrInvalid {
			t.Error("Get", i, e)
		}
		if _, e := Set(Int(1), nil, v); e != api.ErrInvalid {
			t.Error("Set", i, e)
		}
		if _, e := Drop(v, nil); e != api.ErrInvalid {
			t.Error("Drop", i, e)
		}
		if _, e := Count(v); e != api.ErrInvalid {
			t.Error("Count", i, e)
		}
		if _, e := Depth(v); e != api.ErrInvalid {
			t.Error("Depth", i, e)
		}
		if _, e := Dict([]string{"k"}, []api.Value{v}); e != api.ErrLimit {
			t.Error("Dict", i, e)
		}
	}
	if !Valid(Text(strings.Repeat("x", 65530))) || !Valid(List(wide[1:]...)) || !Valid(nested(12)) {
		t.Error("what is just within the bounds is valid")
	}
	long := strings.Repeat("x", api.MaxText+1)
	if _, _, bad, e := Read(long); bad != 0 || e != api.ErrLong {
		t.Error("Read", bad, e)
	}
	if _, e := Parse(long); e != api.ErrLong {
		t.Error("Parse", e)
	}
	if _, _, e := Place(long, nil); e != api.ErrLong {
		t.Error("Place", e)
	}
	if _, e := Dict([]string{"a", "a"}, []api.Value{Int(1), {}}); e != api.ErrDuplicate {
		t.Error("Dict", e)
	}
	if _, e := Dict([]string{"a", "a"}, nil); e != api.ErrSize {
		t.Error("Dict", e)
	}
}

func TestP22OneForm(t *testing.T) {
	for form, v := range values() {
		s, e := Format(v)
		if s != form || e != api.OK {
			t.Error("Format", form, s, e)
		}
		x, e := Parse(form)
		if !Same(x, v) || e != api.OK {
			t.Error("Parse", form, e)
		}
		y, used, bad, e := Read(form + "tail")
		if !Same(y, v) || used != len(form) || bad != -1 || e != api.OK {
			t.Error("Read", form, used, bad, e)
		}
		if _, e := Parse(form + "e"); e != api.ErrSyntax {
			t.Error("Parse with bytes left", form, e)
		}
		for other, w := range values() {
			if Same(v, w) != (form == other) {
				t.Error("Same", form, other)
			}
		}
	}
	a, b := api.Value{Kind: api.BList, Kids: []api.Value{}}, api.Value{Kind: api.BList}
	if !Same(a, b) {
		t.Error("nil and empty lists are alike")
	}
}

func TestP23First(t *testing.T) {
	for form := range values() {
		for n := range len(form) {
			if _, used, bad, e := Read(form[:n]); used != 0 || bad != n || e != api.ErrSyntax {
				t.Error(form[:n], used, bad, e)
			}
		}
	}
	thousand := strings.Repeat("i0e", 999)
	for _, c := range []struct {
		s   string
		bad int
		e   api.Errno
	}{
		{"x", 0, api.ErrSyntax}, {"e", 0, api.ErrSyntax}, {"ie", 1, api.ErrSyntax}, {"i-e", 2, api.ErrSyntax}, {"i-0e", 2, api.ErrSyntax},
		{"i00e", 2, api.ErrSyntax}, {"i1x", 2, api.ErrSyntax}, {"i+1e", 1, api.ErrSyntax}, {"i9223372036854775808e", 19, api.ErrSyntax},
		{"i-9223372036854775809e", 20, api.ErrSyntax}, {"i92233720368547758070e", 20, api.ErrSyntax}, {"01:a", 1, api.ErrSyntax},
		{"1a", 1, api.ErrSyntax}, {"65537:", 4, api.ErrSyntax}, {"65536:a", 7, api.ErrSyntax}, {"3:ab", 4, api.ErrSyntax},
		{"lx", 1, api.ErrSyntax}, {"di1e", 1, api.ErrSyntax}, {"d1:ae", 4, api.ErrSyntax}, {"d1:ai1e1:ai1ee", 7, api.ErrSyntax},
		{"d1:bi1e1:ai1ee", 7, api.ErrSyntax}, {"d1:ai1e1:", 9, api.ErrSyntax},
		{strings.Repeat("l", 14), 12, api.ErrLimit}, {strings.Repeat("l", 12) + "x", 12, api.ErrSyntax},
		{"l" + thousand + "i0ee", 1 + 2997, api.ErrLimit}, {"l" + thousand + "xe", 1 + 2997, api.ErrSyntax},
		{strings.Repeat("d1:a", 12) + "1:x", 48, api.ErrLimit},
	} {
		v, used, bad, e := Read(c.s)
		if used != 0 || bad != c.bad || e != c.e || !Same(v, api.Value{}) {
			t.Error(c.s[:min(len(c.s), 30)], used, bad, e)
		}
		if _, e := Parse(c.s); e != c.e {
			t.Error("Parse", e)
		}
	}
	if _, used, _, e := Read("l" + thousand + "e"); used != 2999 || e != api.OK {
		t.Error("a thousand values", used, e)
	}
	// Another byte at the first wrong one or behind it changes nothing ahead of it.
	for _, s := range []string{"li1e2:abx", "d1:a5:abc", "i-0e"} {
		_, _, bad, _ := Read(s)
		for c := range 256 {
			for at := bad; at < len(s); at++ {
				b := []byte(s)
				b[at] = byte(c)
				if _, _, x, e := Read(string(b)); e != api.OK && x < bad {
					t.Error(s, string(b), x)
				}
			}
		}
	}
}

func TestP24Places(t *testing.T) {
	v := dict([]string{"a", "l", "z"}, Int(5), List(Text("x"), dict([]string{"k"}, Text("deep")), Int(1)), List())
	s, _ := Format(v)
	paths := [][]string{nil, {"a"}, {"l"}, {"l", "0"}, {"l", "1"}, {"l", "1", "k"}, {"l", "2"}, {"z"}}
	for _, p := range paths {
		x, e := Get(v, p)
		form, _ := Format(x)
		from, to, f := Place(s, p)
		if e != api.OK || f != api.OK || s[from:to] != form {
			t.Error("Place", p, from, to, e, f)
		}
		set, e := Set(v, p, Text("new"))
		if y, _ := Get(set, p); e != api.OK || !Same(y, Text("new")) {
			t.Error("Set", p, e)
		}
		if len(p) == 1 {
			for _, q := range [][]string{{"a"}, {"l"}, {"z"}} {
				was, _ := Get(v, q)
				is, _ := Get(set, q)
				if q[0] != p[0] && !Same(was, is) {
					t.Error("other paths stay", p, q)
				}
			}
		}
	}
	if y, _ := Format(v); y != s {
		t.Error("Set changed its argument")
	}
	for _, c := range []struct {
		path []string
		get  api.Errno
		set  api.Errno
	}{
		{[]string{"q"}, api.ErrNone, api.OK}, {[]string{"q", "r"}, api.ErrNone, api.ErrNone}, {[]string{"a", "x"}, api.ErrKind, api.ErrKind},
		{[]string{"l", "3"}, api.ErrNone, api.OK}, {[]string{"l", "4"}, api.ErrNone, api.ErrNone}, {[]string{"l", "01"}, api.ErrNone, api.ErrNone},
		{[]string{"l", "+1"}, api.ErrNone, api.ErrNone}, {[]string{"l", "-0"}, api.ErrNone, api.ErrNone}, {[]string{"l", "0", "x"}, api.ErrKind, api.ErrKind},
		{[]string{"l", "3", "x"}, api.ErrNone, api.ErrNone}, {[]string{"l", ""}, api.ErrNone, api.ErrNone},
	} {
		_, e := Get(v, c.path)
		_, _, f := Place(s, c.path)
		_, g := Drop(v, c.path)
		_, h := Set(v, c.path, Int(1))
		if e != c.get || f != c.get || g != c.get || h != c.set {
			t.Error(c.path, e, f, g, h)
		}
	}
	if _, e := Set(nested(12), []string{"0"}, nested(12)); e != api.ErrLimit {
		t.Error("Set", e)
	}
	if _, _, e := Place("i1ex", nil); e != api.ErrSyntax {
		t.Error("Place", e)
	}
	if _, _, e := Place(strings.Repeat("l", 13)+strings.Repeat("e", 13), nil); e != api.ErrLimit {
		t.Error("Place", e)
	}
}

func TestP25Dropped(t *testing.T) {
	v := dict([]string{"b", "d"}, Int(1), List(Int(2)))
	for _, k := range []string{"a", "c", "e", ""} {
		x, e := Set(v, []string{k}, Text("y"))
		if n, _ := Count(x); n != 5 || e != api.OK {
			t.Error("Set adds", k, e)
		}
		x, e = Drop(x, []string{k})
		if !Same(x, v) || e != api.OK {
			t.Error("Drop", k, e)
		}
	}
	x, _ := Drop(v, []string{"d", "0"})
	if s, _ := Format(x); s != "d1:bi1e1:dlee" {
		t.Error("Drop", s)
	}
	if _, e := Drop(v, nil); e != api.ErrRange {
		t.Error("Drop", e)
	}
	if n, _ := Depth(v); n != 3 {
		t.Error("Depth", n)
	}
	if n, _ := Depth(List()); n != 1 {
		t.Error("Depth", n)
	}
}
