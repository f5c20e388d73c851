package wire

import (
	"slices"
	"strings"
	"testing"

	"covey/api"
	"covey/bits"
	"covey/hash"
)

func id(c string) string { return strings.Repeat(c, 20) }

func messages() []api.Msg {
	root := hash.Sum("root")
	var l []api.Msg
	for _, k := range []int{api.MKeep, api.MChoke, api.MUnchoke, api.MInterested, api.MNot, api.MAll, api.MNone} {
		l = append(l, api.Msg{Kind: k})
	}
	for _, k := range []int{api.MHave, api.MSuggest, api.MAllowed} {
		l = append(l, api.Msg{Kind: k}, api.Msg{Kind: k, Index: most32})
	}
	for _, k := range []int{api.MRequest, api.MCancel, api.MReject} {
		l = append(l, api.Msg{Kind: k, Index: 5, Begin: 16, Length: 1}, api.Msg{Kind: k, Index: most32, Begin: most32, Length: 1024})
	}
	l = append(l, api.Msg{Kind: api.MBits}, api.Msg{Kind: api.MBits, Data: strings.Repeat("x", 512)}, api.Msg{Kind: api.MPiece, Index: 1, Begin: 2, Data: "x"},
		api.Msg{Kind: api.MPiece, Data: strings.Repeat("y", 1024)}, api.Msg{Kind: api.MPort, Index: 1}, api.Msg{Kind: api.MPort, Index: 65535},
		api.Msg{Kind: api.MExtended}, api.Msg{Kind: api.MExtended, Index: 255, Data: strings.Repeat("z", 4096)})
	for _, k := range []int{api.MAsk, api.MRefuse} {
		l = append(l, api.Msg{Kind: k, Root: root, Level: 1, Index: 2, Length: 3, Proof: most32})
	}
	return append(l, api.Msg{Kind: api.MHashes, Root: root, Data: root}, api.Msg{Kind: api.MHashes, Root: root, Proof: 9, Data: strings.Repeat(root, 64)})
}

func hellos() []api.Hello {
	var l []api.Hello
	for k := range 8 {
		l = append(l, api.Hello{Extend: k&1 != 0, Fast: k&2 != 0, New: k&4 != 0, Name: id("n"), Peer: id("p")})
	}
	return l
}

func TestP191Errors(t *testing.T) {
	var none *Reader
	if _, ok := none.Hello(); ok || none.Feed("") != api.ErrInvalid || none.Waiting() != 0 || none.Left() != 0 || none.Wrong() != -1 {
		t.Error("nil")
	}
	if _, ok := none.Next(); ok {
		t.Error("nil")
	}
	root := hash.Sum("root")
	for k, m := range []api.Msg{
		{}, {Kind: -1}, {Kind: 21}, {Kind: api.MKeep, Index: 1}, {Kind: api.MChoke, Data: "x"}, {Kind: api.MHave, Index: -1}, {Kind: api.MHave, Index: most32 + 1}, {Kind: api.MHave, Begin: 1},
		{Kind: api.MBits, Data: strings.Repeat("x", 513)}, {Kind: api.MRequest}, {Kind: api.MRequest, Length: 1025}, {Kind: api.MRequest, Length: 1, Data: "x"}, {Kind: api.MPiece}, {Kind: api.MPiece, Data: strings.Repeat("x", 1025)},
		{Kind: api.MPiece, Data: "x", Length: 1}, {Kind: api.MPort}, {Kind: api.MPort, Index: 65536}, {Kind: api.MExtended, Index: 256}, {Kind: api.MExtended, Data: strings.Repeat("x", 4097)},
		{Kind: api.MAsk}, {Kind: api.MAsk, Root: root, Data: root}, {Kind: api.MHashes, Root: root}, {Kind: api.MHashes, Root: root, Data: root[1:]}, {Kind: api.MHashes, Root: root, Data: strings.Repeat(root, 65)},
		{Kind: api.MRefuse, Root: root + "x"}, {Kind: api.MHave, Root: root},
	} {
		_, e1 := Encode(m)
		_, e2 := All([]api.Msg{{Kind: api.MKeep}, m})
		_, e3 := Field(-1, m)
		_, e4 := Digests(m)
		if Valid(m) || e1 != api.ErrInvalid || e2 != e1 || e3 != e1 || e4 != e1 || Fits(m, 10, 1000, 1000) {
			t.Error(k, e1, e2, e3, e4)
		}
	}
	if _, e := Hello(api.Hello{Name: "x", Peer: id("p")}); e != api.ErrInvalid || ValidHello(api.Hello{Name: id("x"), Peer: "p"}) {
		t.Error(e)
	}
	long := strings.Repeat("\x00", api.MaxText+1)
	if _, _, bad, e := Decode(long); e != api.ErrLong || bad != 0 {
		t.Error(e)
	}
	if _, _, bad, e := ReadHello(long); e != api.ErrLong || bad != 0 {
		t.Error(e)
	}
	if e := New(false).Feed(long); e != api.ErrLong {
		t.Error(e)
	}
}

func TestP192Back(t *testing.T) {
	for k, m := range messages() {
		s, e := Encode(m)
		if e != api.OK || !Valid(m) || len(s) > 4204 {
			t.Fatal(k, e)
		}
		for _, tail := range []string{"", "x", s, "\xff\xff\xff\xff\xff"} {
			x, used, bad, e := Decode(s + tail)
			if x != m || used != len(s) || bad != -1 || e != api.OK {
				t.Error(k, used, bad, e)
			}
		}
	}
	for _, h := range hellos() {
		s, e := Hello(h)
		x, used, bad, f := ReadHello(s + "tail")
		if x != h || used != 68 || bad != -1 || e != api.OK || f != api.OK {
			t.Error(h, used, bad, e, f)
		}
	}
	if s, _ := Encode(api.Msg{Kind: api.MHave, Index: 5}); s != "\x00\x00\x00\x05\x04\x00\x00\x00\x05" {
		t.Errorf("%q", s)
	}
	if s, _ := Hello(hellos()[7]); s != "\x13covey peer protocol\x00\x00\x00\x00\x00\x10\x00\x14"+id("n")+id("p") {
		t.Errorf("%q", s)
	}
	l, e := All(messages())
	want := ""
	for _, m := range messages() {
		s, _ := Encode(m)
		want += s
	}
	if l != want || e != api.OK {
		t.Error("All", e)
	}
}

// feed feeds bytes in pieces, and returns what a reader tells behind.
func feed(s string, greet bool, cut int) (l []api.Msg, h api.Hello, ok bool, wrong, left int) {
	r := New(greet)
	for i := 0; i < len(s); i += cut {
		r.Feed(s[i:min(len(s), i+cut)])
	}
	for r.Waiting() > 0 {
		m, _ := r.Next()
		l = append(l, m)
	}
	h, ok = r.Hello()
	return l, h, ok, r.Wrong(), r.Left()
}

func TestP193Pieces(t *testing.T) {
	hello, _ := Hello(hellos()[5])
	all, _ := All(messages())
	request, _ := Encode(api.Msg{Kind: api.MRequest, Index: 5, Begin: 16, Length: 1})
	for k, c := range []struct {
		s     string
		greet bool
		n     int
		wrong int
		left  int
	}{
		{hello + all, true, len(messages()), -1, 0}, {all, false, len(messages()), -1, 0}, {hello + all + request[:9], true, len(messages()), -1, 9}, {hello[:50], true, 0, -1, 50},
		{hello[:10] + "x" + hello[11:] + all, true, 0, 10, 0}, {hello[:20] + "\x01" + hello[21:], true, 0, 20, 0}, {hello[:27] + "\x08" + hello[28:], true, 0, 27, 0},
		{hello + request + "\x00\x00\x10\x69" + all, true, 1, 68 + 17, 0}, {request + "\x00\x01" + all, false, 1, 17, 0}, {request + "\x00\x00\x00\x01\x0a" + all, false, 1, 21, 0},
		{request + "\x00\x00\x00\x02\x00" + all, false, 1, 17, 0}, {request + request[:13] + "\x00\x00\x00\x00" + all, false, 1, 30, 0}, {request + "\x00\x00\x00\x03\x09\x00\x00", false, 1, 22, 0},
	} {
		for _, cut := range []int{1, 2, 3, 5, 17, 4000, 100000} {
			l, h, ok, wrong, left := feed(c.s, c.greet, cut)
			if len(l) != c.n || wrong != c.wrong || left != c.left || ok && h != hellos()[5] {
				t.Error(k, cut, len(l), wrong, left)
			}
			if c.n > 1 && !slices.Equal(l, messages()) {
				t.Error(k, cut, "messages")
			}
		}
	}
	r := New(false)
	if r.Feed(request+"\xff") != api.ErrData || r.Waiting() != 1 || r.Feed("") != api.ErrData || r.Feed(strings.Repeat("x", api.MaxText)) != api.ErrData || r.Wrong() != 17 {
		t.Error("once and for ever")
	}
	if m, ok := r.Next(); !ok || m.Kind != api.MRequest {
		t.Error("what was whole can be taken")
	}
	r = New(false)
	piece, _ := Encode(api.Msg{Kind: api.MPiece, Data: strings.Repeat("x", 1024)})
	fits := api.MaxText / len(piece)
	for range fits {
		if e := r.Feed(piece); e != api.OK {
			t.Error(e)
		}
	}
	if e := r.Feed(piece); e != api.ErrLimit || r.Waiting() != fits || r.Left() != 0 {
		t.Error(e)
	}
	r.Next()
	if e := r.Feed(piece); e != api.OK {
		t.Error(e)
	}
}

func TestP194First(t *testing.T) {
	for k, m := range messages() {
		s, _ := Encode(m)
		if len(s) > 100 {
			continue
		}
		for at := range s {
			for _, c := range []byte{0, 1, 4, 16, 17, 23, 24, 255} {
				b := []byte(s)
				b[at] = c
				_, used, bad, e := Decode(string(b))
				if e != api.ErrData {
					continue
				}
				if used != 0 {
					t.Error(k, used)
				}
				for n := range bad + 1 {
					if x, _, at, e := Decode(string(b[:n])); e != api.ErrNone || at != n || x != (api.Msg{}) {
						t.Error(k, n, at, e)
					}
				}
			}
		}
		for n := range len(s) {
			if _, _, bad, e := Decode(s[:n]); e != api.ErrNone || bad != n {
				t.Error(k, n, bad, e)
			}
		}
	}
	for s, want := range map[string]int{"\x01": 0, "\x00\x01": 0, "\x00\x00\x11": 0, "\x00\x00\x10\x69": 0, "\x00\x00\x10\x68\x05": 0, "\x00\x00\x00\x01\x18": 4, "\x00\x00\x00\x01\xff": 4, "\x00\x00\x00\x02\x00": 0, "\x00\x00\x00\x33\x15": 0, "\x00\x00\x00\x32\x16": 0, "\x00\x00\x00\x09\x07": 0, "\x00\x00\x00\x01\x14": 0} {
		if _, _, bad, e := Decode(s); bad != want || e != api.ErrData {
			t.Errorf("%q %d %d", s, bad, e)
		}
	}
	for _, s := range []string{"", "\x00", "\x00\x00\x10", "\x00\x00\x10\x68"} {
		if _, _, bad, e := Decode(s); bad != len(s) || e != api.ErrNone {
			t.Errorf("%q %d %d", s, bad, e)
		}
	}
	if _, _, bad, e := ReadHello("\x13covex"); bad != 5 || e != api.ErrData {
		t.Error(bad, e)
	}
	if _, _, bad, e := ReadHello(""); bad != 0 || e != api.ErrNone {
		t.Error(bad, e)
	}
}

func TestP195Bound(t *testing.T) {
	most := 0
	for _, m := range messages() {
		s, _ := Encode(m)
		most = max(most, len(s))
	}
	if most > 4204 || most != 4102 {
		t.Error(most)
	}
	r := New(true)
	hello, _ := Hello(hellos()[0])
	if r.Feed(hello[:67]); r.Left() != 67 {
		t.Error(r.Left())
	}
	if _, ok := r.Hello(); ok {
		t.Error("not whole")
	}
	if r.Feed(hello[67:] + "\x00"); r.Left() != 1 || r.Waiting() != 0 {
		t.Error(r.Left())
	}
}

func TestFields(t *testing.T) {
	ten, _ := bits.Of(10, []int{1, 9})
	full, _ := bits.Full(10)
	none, _ := bits.New(10)
	for k, c := range []struct {
		n    int
		m    api.Msg
		want string
		e    api.Errno
	}{
		{10, api.Msg{Kind: api.MBits, Data: ten}, ten, api.OK}, {10, api.Msg{Kind: api.MAll}, full, api.OK}, {10, api.Msg{Kind: api.MNone}, none, api.OK}, {9, api.Msg{Kind: api.MBits, Data: ten}, "", api.ErrData},
		{-1, api.Msg{Kind: api.MHave}, "", api.ErrRange}, {4097, api.Msg{Kind: api.MAll}, "", api.ErrRange}, {10, api.Msg{Kind: api.MHave}, "", api.ErrKind}, {20, api.Msg{Kind: api.MBits, Data: ten}, "", api.ErrData},
	} {
		if s, e := Field(c.n, c.m); s != c.want || e != c.e {
			t.Error(k, e)
		}
	}
	a, b := hash.Sum("a"), hash.Sum("b")
	if l, e := Digests(api.Msg{Kind: api.MHashes, Root: a, Data: a + b}); !slices.Equal(l, []string{a, b}) || e != api.OK {
		t.Error(e)
	}
	if _, e := Digests(api.Msg{Kind: api.MAll}); e != api.ErrKind {
		t.Error(e)
	}
	for k, c := range []struct {
		m    api.Msg
		want bool
	}{
		{api.Msg{Kind: api.MHave, Index: 4}, true}, {api.Msg{Kind: api.MHave, Index: 5}, false}, {api.Msg{Kind: api.MAllowed, Index: 5}, false}, {api.Msg{Kind: api.MSuggest, Index: 5}, false}, {api.Msg{Kind: api.MRequest, Index: 3, Begin: 16, Length: 16}, true},
		{api.Msg{Kind: api.MRequest, Index: 3, Begin: 17, Length: 16}, false}, {api.Msg{Kind: api.MRequest, Index: 4, Begin: 0, Length: 7}, true}, {api.Msg{Kind: api.MCancel, Index: 4, Begin: 1, Length: 7}, false},
		{api.Msg{Kind: api.MReject, Index: 5, Length: 1}, false}, {api.Msg{Kind: api.MPiece, Index: 4, Begin: 6, Data: "x"}, true}, {api.Msg{Kind: api.MPiece, Index: 4, Begin: 6, Data: "xy"}, false}, {api.Msg{Kind: api.MPort, Index: 6}, true}, {api.Msg{Kind: api.MKeep}, true},
	} {
		if Fits(c.m, 5, 32, 7) != c.want || Fits(c.m, 0, 32, 7) || Fits(c.m, 5, 0, 7) || Fits(c.m, 5, 32, 0) {
			t.Error(k)
		}
	}
}
