package disk

import (
	"slices"
	"strconv"
	"strings"
	"testing"

	"covey/api"
	"covey/benc"
	"covey/bits"
	"covey/files"
	"covey/hash"
	"covey/meta"
)

func fileOf(n int, path ...string) api.File { return api.File{Path: path, Length: n} }

func list() []api.File {
	return []api.File{fileOf(40, "a"), fileOf(0, "e"), fileOf(21, "b", "c"), fileOf(33, "d")}
}

func dataOf(l []api.File) []string {
	var out []string
	for _, f := range l {
		s := ""
		if !f.Pad {
			s, _ = hash.Stream(strings.Join(f.Path, "/"), 0, f.Length)
		}
		out = append(out, s)
	}
	return out
}

func made(t *testing.T, version int) api.Meta {
	t.Helper()
	m, e := meta.Make("name", version, 32, false, list(), dataOf(list()))
	if e != api.OK {
		t.Fatal(e)
	}
	return m
}

func openAt(t *testing.T, d *Disk, m api.Meta, whole bool) *Store {
	t.Helper()
	s, e := Open(d, m, "f", whole, 100)
	if e != api.OK {
		t.Fatal(e)
	}
	return s
}

// piece is what a piece of a store must be.
func piece(s *Store, i int) string {
	l := s.meta.Info.Files
	spans, _ := files.Spans(l, 32, s.new, i)
	x, _ := files.Read(l, dataOf(l), spans)
	return x
}

func block(s *Store, i, begin int) (api.Choice, string) {
	p := piece(s, i)
	n := min(16, len(p)-begin)
	return api.Choice{Piece: i, Begin: begin, Length: n}, p[begin : begin+n]
}

// fill puts all pieces of a store, or those that are told.
func fill(t *testing.T, s *Store, l ...int) {
	t.Helper()
	for i := range s.Pieces() {
		if len(l) == 0 || slices.Contains(l, i) {
			if e := s.Put(i, piece(s, i)); e != api.OK {
				t.Fatal(i, e)
			}
		}
	}
}

func versions() []int { return []int{api.VOld, api.VNew, api.VBoth} }

func TestP331Errors(t *testing.T) {
	var none *Disk
	var nobody *Store
	none.Fall(nil)
	if none.Write("a", 0, "") != api.ErrInvalid || none.Flush("a") != api.ErrInvalid || none.Paths() != nil || none.Pending() != 0 || none.Copy() != nil || nobody.Had() != "" || nobody.Pieces() != 0 || nobody.Disk() != nil || nobody.Put(0, "") != api.ErrInvalid || nobody.Move("x") != api.ErrInvalid {
		t.Error("nil")
	}
	if _, e := nobody.Block(api.Choice{}, ""); e != api.ErrInvalid {
		t.Error(e)
	}
	d := New()
	for _, p := range []string{"", "a\x1f", strings.Repeat("x", 201)} {
		_, e1 := d.Read(p, -1, -1)
		_, e2 := d.Len(p)
		if d.Write(p, -1, "") != api.ErrInvalid || d.Cut(p, -1) != api.ErrInvalid || e1 != api.ErrInvalid || e2 != e1 || d.Rename("a", p) != e1 || d.Rename(p, "a") != e1 || d.Remove(p) != e1 {
			t.Error(p)
		}
	}
	for k, c := range []struct{ e, want api.Errno }{
		{d.Write("a", -1, ""), api.ErrRange}, {d.Write("a", 100000, "x"), api.ErrFull}, {d.Write("a", 100001, ""), api.ErrFull}, {d.Cut("a", -1), api.ErrRange}, {d.Cut("a", 100001), api.ErrNone}, {d.Flush("a"), api.ErrNone}, {d.Remove("a"), api.ErrNone}, {d.Rename("a", "b"), api.ErrNone},
		{d.Write("a", 99999, "x"), api.OK}, {d.Cut("a", 100001), api.ErrFull}, {d.Rename("a", "a"), api.ErrDuplicate}, {d.Write("b", 50, ""), api.OK}, {d.Rename("a", "b"), api.ErrDuplicate}, {d.Remove("b"), api.OK},
	} {
		if c.e != c.want {
			t.Error(k, c.e, c.want)
		}
	}
	if _, e := d.Read("c", 0, -1); e != api.ErrRange {
		t.Error(e)
	}
	if _, e := d.Read("c", 0, 1); e != api.ErrNone {
		t.Error(e)
	}
	m := made(t, api.VNew)
	for k, c := range []struct {
		d      *Disk
		m      api.Meta
		folder string
		cache  int
		e      api.Errno
	}{{none, m, "f", 1, api.ErrInvalid}, {d, api.Meta{}, "f", 1, api.ErrInvalid}, {d, m, "", 0, api.ErrInvalid}, {d, m, strings.Repeat("x", 61), 0, api.ErrInvalid}, {d, m, "\x01", 0, api.ErrInvalid}, {d, m, "f", 0, api.ErrRange}, {d, m, "f", 101, api.ErrRange}} {
		if _, e := Open(c.d, c.m, c.folder, false, c.cache); e != c.e {
			t.Error(k, e)
		}
	}
	s := openAt(t, New(), m, false)
	good, x := block(s, 0, 0)
	for k, c := range []struct {
		c    api.Choice
		data string
		e    api.Errno
	}{
		{api.Choice{Piece: -1, Begin: 1}, "", api.ErrRange}, {api.Choice{Piece: 5, Length: 16}, "", api.ErrRange}, {api.Choice{Piece: 0, Begin: 1, Length: 16}, "", api.ErrInvalid}, {api.Choice{Piece: 0, Begin: 32, Length: 16}, "", api.ErrInvalid}, {api.Choice{Piece: 0, Length: 15}, "", api.ErrInvalid},
		{good, "", api.ErrSize}, {good, x, api.OK}, {good, x, api.ErrDuplicate},
	} {
		if _, e := s.Block(c.c, c.data); e != c.e {
			t.Error(k, e)
		}
	}
	if _, e := s.Read(good); e != api.ErrState {
		t.Error(e)
	}
	if s.Put(0, "x") != api.ErrSize || s.Put(9, "x") != api.ErrRange || s.Put(0, strings.Repeat("x", 32)) != api.ErrProof || s.Put(0, piece(s, 0)) != api.OK || s.Put(0, piece(s, 0)) != api.ErrState {
		t.Error("Put")
	}
	if _, e := s.Block(good, x); e != api.ErrState {
		t.Error(e)
	}
	if s.Forget(9) != api.ErrRange || s.Move("f") != api.ErrState || s.Move("") != api.ErrInvalid {
		t.Error("Move")
	}
	if _, e := s.Step(); e != api.ErrState {
		t.Error(e)
	}
	for _, i := range []int{-1, 9} {
		_, e1 := s.Has(i)
		_, e2 := s.Partial(i)
		_, e3 := s.Size(i)
		_, e4 := s.Folder(i)
		if e1 != api.ErrRange || e2 != e1 || e3 != e1 || e4 != e1 {
			t.Error(i, e1, e2, e3, e4)
		}
	}
	both := openAt(t, New(), made(t, api.VBoth), false)
	if _, e := both.Folder(1); e != api.OK {
		t.Error(e)
	}
	if k := slices.IndexFunc(both.meta.Info.Files, func(f api.File) bool { return f.Pad }); k < 0 {
		t.Error("no pad")
	} else if _, e := both.Folder(k); e != api.ErrKind {
		t.Error(e)
	}
}

func TestDisk(t *testing.T) {
	d := New()
	d.Write("a", 3, "xyz")
	d.Write("a", 1, "!")
	d.Cut("a", 5)
	if s, e := d.Read("a", 0, 100); s != "\x00!\x00xy" || e != api.OK {
		t.Errorf("%q", s)
	}
	if s, _ := d.Read("a", 4, 1); s != "y" {
		t.Errorf("%q", s)
	}
	if s, e := d.Read("a", 9, 1); s != "" || e != api.OK {
		t.Errorf("%q", s)
	}
	d.Write("b", 50, "")
	if n, _ := d.Len("b"); n != 0 || d.Pending() != 4 || !slices.Equal(d.Paths(), []string{"a", "b"}) {
		t.Error("an empty write fills nothing", n, d.Pending())
	}
	c := d.Copy()
	c.Fall([]int{1, 7, -1})
	if s, _ := c.Read("a", 0, 9); s != "\x00!" || c.Pending() != 0 {
		t.Errorf("%q", s)
	}
	c = d.Copy()
	c.Fall([]int{2, 0})
	if s, _ := c.Read("a", 0, 9); s != "\x00\x00\x00xy" {
		t.Errorf("%q", s)
	}
	c = d.Copy()
	c.Fall(nil)
	if n, e := c.Len("a"); n != 0 || e != api.OK {
		t.Error("a new file is there at once, empty", n, e)
	}
	d.Flush("a")
	if d.Pending() != 1 {
		t.Error(d.Pending())
	}
	d.Write("a", 0, "lost")
	d.Rename("b", "c")
	d.Fall(nil)
	if s, _ := d.Read("a", 0, 9); s != "\x00!\x00xy" || !slices.Equal(d.Paths(), []string{"a", "c"}) {
		t.Errorf("%q", s)
	}
	d.Cut("a", 2)
	d.Cut("a", 4)
	if s, _ := d.Read("a", 0, 9); s != "\x00!\x00\x00" {
		t.Errorf("%q", s)
	}
}

func TestP332Proved(t *testing.T) {
	for _, version := range versions() {
		m := made(t, version)
		d := New()
		s := openAt(t, d, m, false)
		fill(t, s)
		for i := range s.Pieces() {
			for begin := 0; begin < len(piece(s, i)); begin += 16 {
				c, want := block(s, i, begin)
				if x, e := s.Read(c); x != want || e != api.OK {
					t.Error(version, i, begin, e)
				}
			}
		}
		// Bytes of a file that are spoilt: just the pieces that hold them are not had any more.
		spoilt, _, _ := files.Where(m.Info.Files, 32, s.new, 0, 33)
		d.Write("f/name/a", 33, "?")
		for i := range s.Pieces() {
			c, want := block(s, i, 0)
			x, e := s.Read(c)
			if i == spoilt && (e != api.ErrData || x != "") || i != spoilt && (x != want || e != api.OK) {
				t.Error(version, i, e)
			}
			if has, _ := s.Has(i); has != (i != spoilt) {
				t.Error("had", i)
			}
		}
		d.Remove("f/name/d")
		n, e := s.Check()
		last := s.Pieces() - 1
		if has, _ := s.Has(last); has || n >= s.Pieces()-1 || e != api.OK {
			t.Error(version, n, e)
		}
		// A wrong block: all blocks are forgotten.
		s.Forget(0)
		c, x := block(s, 0, 0)
		c2, y := block(s, 0, 16)
		s.Block(c, x)
		if l, _ := s.Partial(0); !slices.Equal(l, []api.Choice{c}) {
			t.Error(l)
		}
		if whole, e := s.Block(c2, "!"+y[1:]); whole || e != api.ErrProof {
			t.Error(e)
		}
		if l, _ := s.Partial(0); len(l) != 0 {
			t.Error(l)
		}
		s.Block(c2, y)
		if whole, e := s.Block(c, x); !whole || e != api.OK {
			t.Error(e)
		}
	}
	m, _ := meta.Make("n", api.VNew, 16, false, []api.File{fileOf(20, "a")}, []string{"0123456789abcdefghij"})
	d := New()
	s, _ := Open(d, m, "f", false, 1)
	if len(d.Paths()) != 0 {
		t.Error("sparse")
	}
	s.Block(api.Choice{Piece: 0, Length: 16}, "0123456789abcdef")
	whole, e := s.Block(api.Choice{Piece: 1, Length: 4}, "ghij")
	if n, _ := d.Len("f/n/a"); n != 20 || !whole || e != api.OK || s.Had() != "\xc0" || d.Pending() != 0 {
		t.Error(n, whole, e)
	}
}

func TestLaying(t *testing.T) {
	for _, version := range versions() {
		m := made(t, version)
		d := New()
		openAt(t, d, m, false)
		if !slices.Equal(d.Paths(), []string{"f/name/e"}) || d.Pending() != 0 {
			t.Error("the empty ones", d.Paths())
		}
		d.Write("f/name/a", 0, strings.Repeat("x", 60))
		s := openAt(t, d, m, true)
		l, e := s.Files()
		if !slices.Equal(l, []string{"f/name/a", "f/name/e", "f/name/b/c", "f/name/d"}) || len(d.Paths()) != 4 || d.Pending() != 0 || e != api.OK {
			t.Error(l, d.Paths())
		}
		for k, n := range []int{40, 0, 21, 33} {
			if x, _ := d.Len(l[k]); x != n {
				t.Error(l[k], x)
			}
		}
		if x, _ := d.Read("f/name/a", 0, 2); x != "xx" || s.Disk() != d {
			t.Error("cut to its length", x)
		}
	}
	// The cache: the piece whose last block came longest ago is forgotten first.
	s, _ := Open(New(), made(t, api.VNew), "f", false, 2)
	for _, i := range []int{0, 4, 0} {
		c, x := block(s, i, 0)
		if i == 0 {
			if l, _ := s.Partial(0); len(l) > 0 {
				c, x = block(s, 0, 16)
				x = "?" + x[1:]
			}
		}
		s.Block(c, x)
	}
	c, x := block(s, 0, 0)
	s.Block(c, x)
	c, x = block(s, 4, 0)
	if has, _ := s.Has(4); !has {
		s.Block(c, x)
	}
	if len(s.memory) > 2 {
		t.Error(len(s.memory))
	}
	s, _ = Open(New(), made(t, api.VOld), "f", false, 2)
	for _, i := range []int{0, 1, 0, 2} {
		c, x := block(s, i, 0)
		if l, _ := s.Partial(i); len(l) > 0 {
			s.memory[i].last = 100
			continue
		}
		s.Block(c, x)
	}
	if s.memory[0] == nil || s.memory[1] != nil || s.memory[2] == nil {
		t.Error("cache")
	}
}

func TestP333Fallen(t *testing.T) {
	for _, version := range versions() {
		for _, whole := range []bool{false, true} {
			m := made(t, version)
			for keep := range 4 {
				d := New()
				s := openAt(t, d, m, whole)
				fill(t, s, 0, 2)
				claim, e := s.Claim()
				had := s.Had()
				if e != api.OK {
					t.Fatal(e)
				}
				fill(t, s, 1)
				all := s.Had()
				d.Write("other", 0, "x")
				d.Fall([]int{keep})
				r := openAt(t, d, m, whole)
				if n, e := r.Check(); n != 3 || r.Had() != all || e != api.OK {
					t.Error(version, n, e)
				}
				if n, e := r.Resume(claim); n != 2 || r.Had() != had || e != api.OK {
					t.Error(version, n, e)
				}
				d.Write("f/name/a", 0, "?")
				if n, _ := r.Resume(claim); n != 1 {
					t.Error("proved by the disk", n)
				}
			}
		}
	}
	m := made(t, api.VNew)
	d := New()
	s := openAt(t, d, m, false)
	fill(t, s)
	claim, _ := s.Claim()
	v, _ := benc.Parse(claim)
	set := func(key string, to api.Value) string {
		x, _ := benc.Set(v, []string{key}, to)
		out, _ := benc.Format(x)
		return out
	}
	full, _ := bits.Full(6)
	for k, c := range []struct {
		s string
		e api.Errno
	}{
		{strings.Repeat("x", api.MaxText+1), api.ErrLong}, {"x", api.ErrSyntax}, {strings.Repeat("l", 13), api.ErrLimit}, {"le", api.ErrData}, {"de", api.ErrData}, {set("other", benc.Int(1)), api.ErrData}, {set("have", benc.Int(1)), api.ErrData}, {set("name", benc.Int(1)), api.ErrData},
		{set("sizes", benc.Int(1)), api.ErrData}, {set("sizes", benc.List(benc.Text(""))), api.ErrData}, {set("sizes", benc.List(benc.Int(-2), benc.Int(0), benc.Int(0), benc.Int(0))), api.ErrData}, {set("name", benc.Text("x")), api.ErrKind}, {set("have", benc.Text(full+"x")), api.ErrKind},
		{set("have", benc.Text("\xff")), api.ErrKind}, {set("sizes", benc.List()), api.ErrKind}, {claim, api.OK},
	} {
		n, e := s.Resume(c.s)
		if e != c.e || e == api.OK && n != s.Pieces() {
			t.Error(k, n, e)
		}
	}
	if n, _ := v.Kids[2].Kids[2].N, 0; n != 21 {
		t.Error("sizes", n)
	}
	// Files shorter than the claim tells do not count, whatever the disk proves.
	d.Write("f/name/d", 33, "more")
	long, _ := s.Claim()
	d.Cut("f/name/d", 33)
	if n, _ := s.Resume(long); n != s.Pieces() {
		t.Error("the lesser of it and the file's length", n)
	}
	d.Cut("f/name/d", 32)
	if n, _ := s.Resume(claim); n != s.Pieces()-2 {
		t.Error("shorter", n)
	}
}

func TestP334Moved(t *testing.T) {
	for _, version := range versions() {
		m := made(t, version)
		d := New()
		s := openAt(t, d, m, false)
		fill(t, s, 0, s.Pieces()-1)
		had := s.Had()
		check := func() {
			t.Helper()
			for i := range s.Pieces() {
				if has, _ := s.Has(i); has {
					c, want := block(s, i, 0)
					if x, e := s.Read(c); x != want || e != api.OK {
						t.Error(i, e)
					}
				}
			}
			if s.Had() != had {
				t.Error("had")
			}
		}
		d.Write("g/name/e", 0, "in the way")
		if s.Move("g") != api.OK || s.Move("h") != api.ErrState {
			t.Error("Move")
		}
		if done, e := s.Step(); done || e != api.OK {
			t.Error(done, e)
		}
		check()
		if f, _ := s.Folder(0); f != "g" {
			t.Error(f)
		}
		for range 2 {
			if done, e := s.Step(); done || e != api.ErrDuplicate {
				t.Error(done, e)
			}
		}
		if f, _ := s.Folder(1); f != "f" {
			t.Error(f)
		}
		check()
		d.Remove("g/name/e")
		steps := 0
		for {
			done, e := s.Step()
			if e != api.OK {
				t.Fatal(e)
			}
			steps++
			check()
			if done {
				break
			}
		}
		// b/c is not there in the sparse store: it takes no step.
		if version == api.VNew && steps != 2 {
			t.Error(steps)
		}
		l, _ := s.Files()
		if l[2] != "g/name/b/c" || s.Move("g") != api.ErrState || slices.ContainsFunc(d.Paths(), func(p string) bool { return strings.HasPrefix(p, "f/") }) {
			t.Error(l, d.Paths())
		}
		fill2 := 1
		if e := s.Put(fill2, piece(s, fill2)); e != api.OK {
			t.Error(e)
		}
		had = s.Had()
		check()
	}
}

func TestP335Pieces(t *testing.T) {
	for _, version := range versions() {
		m := made(t, version)
		want := ""
		for seed := range 5 {
			s := openAt(t, New(), m, seed%2 == 0)
			var all []api.Choice
			for i := range s.Pieces() {
				for begin := 0; begin < len(piece(s, i)); begin += 16 {
					c, _ := block(s, i, begin)
					all = append(all, c)
				}
			}
			slices.SortFunc(all, func(a, b api.Choice) int {
				k := func(c api.Choice) string {
					return hash.Old(strconv.Itoa(seed) + ":" + strconv.Itoa(c.Piece*1000+c.Begin))
				}
				return strings.Compare(k(a), k(b))
			})
			wholes := 0
			for _, c := range all {
				_, x := block(s, c.Piece, c.Begin)
				whole, e := s.Block(c, x)
				if e != api.OK {
					t.Error(e)
				}
				if whole {
					wholes++
				}
			}
			if want == "" {
				want = s.Had()
			}
			full, _ := bits.Full(s.Pieces())
			if s.Had() != want || want != full || wholes != s.Pieces() {
				t.Error(version, seed)
			}
		}
	}
}
