package meta

import (
	"slices"
	"strconv"
	"strings"
	"testing"

	"covey/api"
	"covey/benc"
	"covey/files"
	"covey/hash"
)

func file(n int, path ...string) api.File { return api.File{Path: path, Length: n} }

func text(seed string, n int) string {
	s, _ := hash.Stream(seed, 0, n)
	return s
}

func dataOf(l []api.File) []string {
	var out []string
	for _, f := range l {
		s := ""
		if !f.Pad {
			s = text(strings.Join(f.Path, "/"), f.Length)
		}
		out = append(out, s)
	}
	return out
}

func lists() [][]api.File {
	return [][]api.File{
		{file(3, "a")},
		{file(20, "a"), file(5, "b")},
		{file(0, "e"), file(100, "a", "x"), file(0, "f"), file(16, "a", "y"), file(65, "z")},
	}
}

// metas are metainfos of all versions.
func metas() []api.Meta {
	var out []api.Meta
	for k, l := range lists() {
		for _, version := range []int{api.VOld, api.VNew, api.VBoth} {
			for _, piece := range []int{16, 64} {
				m, e := Make("name", version, piece, k == 1, l, dataOf(l))
				if e != api.OK {
					panic(e)
				}
				if k > 0 {
					m.Trackers = [][]string{{"t1", "t2"}, {"u"}}
					m.Webs = []string{"w"}
					m.Comment = "c"
				}
				out = append(out, m)
			}
		}
	}
	return out
}

func TestP61Errors(t *testing.T) {
	good := metas()[12].Info
	both := metas()[16].Info
	fresh := metas()[14].Info
	for k, c := range []struct {
		base api.Info
		f    func(i *api.Info)
		part string
		at   int
		e    api.Errno
	}{
		{good, func(i *api.Info) { i.Name = "a/b"; i.Version = 9 }, "name", 0, api.ErrName},
		{good, func(i *api.Info) { i.Name = "" }, "name", 0, api.ErrName},
		{good, func(i *api.Info) { i.Version = 0; i.Piece = 3 }, "version", 0, api.ErrRange},
		{good, func(i *api.Info) { i.Piece = 3; i.Files = nil }, "piece", 0, api.ErrRange},
		{good, func(i *api.Info) { i.Files = nil; i.Pieces = nil }, "files", 0, api.ErrLimit},
		{good, func(i *api.Info) { i.Files = []api.File{file(1, "a"), file(1, "a")} }, "files", 1, api.ErrDuplicate},
		{good, func(i *api.Info) { i.Files = []api.File{file(0, "a")}; i.Pieces = nil }, "files", 0, api.ErrSize},
		{good, func(i *api.Info) { i.Pieces = i.Pieces[1:] }, "pieces", len(good.Pieces) - 1, api.ErrSize},
		{good, func(i *api.Info) { i.Pieces = slices.Clone(i.Pieces); i.Pieces[1] = "x" }, "pieces", 1, api.ErrData},
		{good, func(i *api.Info) { i.Roots = []string{"x"} }, "roots", 1, api.ErrSize},
		{fresh, func(i *api.Info) {
			i.Files = []api.File{file(1, "a"), {Path: []string{".pad", "3"}, Length: 3, Pad: true}, file(1, "b")}
		}, "files", 1, api.ErrKind},
		{fresh, func(i *api.Info) { i.Pieces = []string{"x", "y"} }, "pieces", 2, api.ErrSize},
		{fresh, func(i *api.Info) { i.Roots = slices.Clone(i.Roots); i.Roots[0] = hash.Zero() }, "roots", 0, api.ErrData},
		{fresh, func(i *api.Info) { i.Roots = slices.Clone(i.Roots); i.Roots[1] = "" }, "roots", 1, api.ErrData},
		{both, func(i *api.Info) { i.Files = lists()[2] }, "files", 0, api.ErrState},
		{both, func(i *api.Info) { i.Roots = nil }, "roots", 0, api.ErrSize},
		{both, func(i *api.Info) {}, "", 0, api.OK},
	} {
		i := c.base
		c.f(&i)
		part, at, e := Wrong(i)
		if part != c.part || at != c.at || e != c.e || Valid(i) != (e == api.OK) {
			t.Error(k, part, at, e)
		}
		if e == api.OK {
			continue
		}
		if _, e := Form(i); e != api.ErrInvalid || Old(i) || New(i) {
			t.Error("Form", e)
		}
		if _, e := Encode(api.Meta{Info: i}); e != api.ErrInvalid {
			t.Error("Encode", e)
		}
		if _, e := Size(i, false, 9999); e != api.ErrInvalid {
			t.Error("Size", e)
		}
	}
	m := metas()[13]
	if _, e := Count(m.Info, true); e != api.ErrKind {
		t.Error("Count", e)
	}
	if _, e := Half(metas()[15], false); e != api.ErrKind {
		t.Error("Half", e)
	}
	if _, e := Piece(m, 0); e != api.ErrKind {
		t.Error("Piece", e)
	}
	for _, k := range []int{-1, 1000} {
		if _, e := Size(m.Info, false, k); e != api.ErrRange {
			t.Error("Size", e)
		}
		if _, e := Check(m, false, k, ""); e != api.ErrRange {
			t.Error("Check", e)
		}
		if _, e := Piece(metas()[15], k); e != api.ErrRange {
			t.Error("Piece", e)
		}
	}
	l := lists()[1]
	for k, c := range []struct {
		name           string
		version, piece int
		l              []api.File
		data           []string
		e              api.Errno
	}{
		{"", api.VOld, 16, l, dataOf(l), api.ErrInvalid}, {"x", 4, 16, l, nil, api.ErrInvalid}, {"x", api.VOld, 17, l, nil, api.ErrInvalid},
		{"x", api.VOld, 16, nil, nil, api.ErrInvalid}, {"x", api.VOld, 16, l, nil, api.ErrSize}, {"x", api.VNew, 16, l, []string{"a", "b"}, api.ErrSize},
		{"x", api.VBoth, 16, []api.File{file(1, "a"), file(65535, "b")}, nil, api.ErrLimit}, {"x", api.VOld, 16, []api.File{file(0, "a")}, []string{""}, api.ErrInvalid},
		{"x", api.VBoth, 16, l, dataOf(l)[:1], api.ErrSize},
	} {
		if m, e := Make(c.name, c.version, c.piece, false, c.l, c.data); e != c.e || !Same(m, api.Meta{}) {
			t.Error("Make", k, e)
		}
	}
	big := strings.Repeat("x", api.MaxText+1)
	if _, e := Decode(big); e != api.ErrLong {
		t.Error("Decode", e)
	}
	if _, e := Info(big); e != api.ErrLong {
		t.Error("Info", e)
	}
	if _, e := Raw(big); e != api.ErrLong {
		t.Error("Raw", e)
	}
	huge, _ := Make("x", api.VOld, 16, false, []api.File{file(65536, "a")}, []string{text("a", 65536)})
	if _, e := Form(huge.Info); e != api.ErrLimit || !Valid(huge.Info) {
		t.Error("Form", e)
	}
	if _, e := Encode(huge); e != api.ErrLimit {
		t.Error("Encode", e)
	}
}

// Pads align what follows: their bytes are no content.
func TestP61PadsAreNoContent(t *testing.T) {
	pad := func(n int) api.File {
		return api.File{Path: []string{".pad", strconv.Itoa(n)}, Length: n, Pad: true}
	}
	empty := []api.File{file(0, "a"), pad(11), file(0, "b")}
	i := api.Info{Name: "n", Version: api.VOld, Piece: 16, Files: empty, Pieces: []string{hash.Old(strings.Repeat("\x00", 11))}}
	for k, c := range []struct {
		version int
		l       []api.File
		e       api.Errno
	}{
		{api.VOld, empty, api.ErrSize}, {api.VOld, []api.File{file(0, "a")}, api.ErrSize}, {api.VNew, []api.File{file(0, "a"), file(0, "b")}, api.ErrSize},
		{api.VNew, empty, api.ErrKind}, {api.VBoth, empty, api.ErrState}, {api.VBoth, []api.File{file(0, "a"), file(0, "b")}, api.ErrSize},
	} {
		x := i
		x.Version, x.Files = c.version, c.l
		if part, at, e := Wrong(x); part != "files" || (at != 0) != (c.e == api.ErrKind) || e != c.e || Valid(x) {
			t.Error(k, part, at, e)
		}
	}
	for _, data := range [][]string{{"", "", ""}, {"", strings.Repeat("\x00", 11), ""}} {
		if m, e := Make("n", api.VOld, 16, false, empty, data); e != api.ErrInvalid || !Same(m, api.Meta{}) {
			t.Error("Make", e)
		}
	}
	if _, e := Make("n", api.VBoth, 16, false, empty, []string{"", ""}); e != api.ErrInvalid {
		t.Error("Make", e)
	}
	form := "d5:filesld6:lengthi0e4:pathl1:aeed4:attr1:p6:lengthi11e4:pathl4:.pad2:11eed6:lengthi0e4:pathl1:beee4:name1:n12:piece lengthi16e6:pieces20:" + i.Pieces[0] + "e"
	if _, e := Info(form); e != api.ErrData {
		t.Error("Info", e)
	}
	if _, e := Decode("d4:info" + form + "e"); e != api.ErrData {
		t.Error("Decode", e)
	}
	// One byte of content is enough, with pads in front of it and behind.
	l := []api.File{file(0, "a"), pad(11), file(1, "c"), pad(4), file(0, "b")}
	m, e := Make("n", api.VOld, 16, false, l, []string{"", "", "c", "", ""})
	if e != api.OK || !ValidMeta(m) {
		t.Error("Make", e)
	}
}

func TestP62Back(t *testing.T) {
	for k, m := range metas() {
		s, e := Encode(m)
		if e != api.OK {
			t.Fatal("Encode", k, e)
		}
		x, e := Decode(s)
		if !Same(x, m) || e != api.OK {
			t.Error("Decode", k, e)
		}
		raw, e := Raw(s)
		form, f := Form(m.Info)
		if raw != form || e != api.OK || f != api.OK {
			t.Error("Raw", k, e, f)
		}
		i, e := Info(form)
		if !Same(api.Meta{Info: i}, api.Meta{Info: m.Info}) || e != api.OK {
			t.Error("Info", k, e)
		}
	}
	one := "d5:filesld6:lengthi3e4:pathl1:aeee4:name1:n12:piece lengthi16e6:pieces20:" + hash.Old("abc") + "e"
	m, _ := Make("n", api.VOld, 16, false, []api.File{file(3, "a")}, []string{"abc"})
	if form, _ := Form(m.Info); form != one {
		t.Error("Form", form)
	}
}

// edit changes a value of a metainfo's form.
func edit(s string, to *api.Value, path ...string) string {
	v, _ := benc.Parse(s)
	var e api.Errno
	if to == nil {
		v, e = benc.Drop(v, path)
	} else {
		v, e = benc.Set(v, path, *to)
	}
	if e != api.OK {
		panic(e)
	}
	s, _ = benc.Format(v)
	return s
}

func TestP62Wrong(t *testing.T) {
	l := lists()[2]
	m, _ := Make("n", api.VBoth, 16, true, l, dataOf(l))
	m.Trackers, m.Webs, m.Comment = [][]string{{"t"}}, []string{"w"}, "c"
	s, _ := Encode(m)
	v := func(x api.Value) *api.Value { return &x }
	for k, c := range []struct {
		to   *api.Value
		path string
		e    api.Errno
	}{
		{v(benc.Int(1)), "other", api.ErrKind}, {nil, "info", api.ErrKind}, {v(benc.Int(1)), "info", api.ErrKind}, {v(benc.Int(2)), "info private", api.ErrKind},
		{v(benc.Int(0)), "info private", api.ErrKind}, {nil, "info name", api.ErrKind}, {v(benc.Int(1)), "info name", api.ErrKind}, {v(benc.Int(3)), "info meta_version", api.ErrKind},
		{nil, "info meta_version", api.ErrKind}, {nil, "info pieces", api.ErrKind}, {nil, "info files", api.ErrKind}, {nil, "info file_tree", api.ErrKind},
		{v(benc.Text("q")), "info files 2 attr", api.ErrKind}, {v(benc.Text("12345")), "info pieces", api.ErrKind}, {v(benc.Text("")), "info pieces", api.ErrData},
		{v(benc.Int(17)), "info piece_length", api.ErrData}, {v(benc.Int(-1)), "info files 0 length", api.ErrData}, {v(benc.List()), "info files 0 path", api.ErrData},
		{v(benc.Int(1)), "info file_tree 0 1", api.ErrKind}, {nil, "info file_tree 1 2", api.ErrKind}, {v(benc.Text("x")), "info file_tree 1 2", api.ErrData}, {v(benc.Int(1)), "info file_tree 1 2", api.ErrKind}, {v(benc.Int(-1)), "info file_tree 1 1", api.ErrData},
		{v(benc.List()), "announce-list", api.ErrKind}, {v(benc.List(benc.List())), "announce-list", api.ErrData}, {v(benc.List(benc.Text("t"))), "announce-list", api.ErrKind},
		{v(benc.List()), "url-list", api.ErrKind}, {v(benc.Text("")), "comment", api.ErrKind}, {v(benc.Text(strings.Repeat("x", 501))), "comment", api.ErrData},
		{v(benc.List(benc.Text(""))), "url-list", api.ErrData}, {nil, "piece_layers", api.ErrProof}, {v(benc.List()), "piece_layers", api.ErrKind},
		{v(benc.Text(hash.Zero())), "piece_layers " + hash.Zero(), api.ErrProof}, {v(benc.Text("x")), "piece_layers " + m.Info.Roots[1], api.ErrKind},
		{v(benc.Text(hash.Zero())), "piece_layers " + m.Info.Roots[1], api.ErrProof}, {nil, "piece_layers " + m.Info.Roots[1], api.ErrProof},
		{v(benc.Text("other")), "info file_tree 1 0 0", api.ErrData}, {v(benc.Text("q")), "info name", api.OK},
	} {
		var path []string
		for _, p := range strings.Split(c.path, " ") {
			path = append(path, strings.ReplaceAll(p, "_", " "))
		}
		x, e := Decode(edit(s, c.to, path...))
		if e != c.e || e != api.OK && !Same(x, api.Meta{}) {
			t.Error(k, c.path, e)
		}
	}
	old, _ := Half(m, false)
	o, _ := Encode(old)
	d, _ := benc.Dict([]string{hash.Zero()}, []api.Value{benc.Text(hash.Zero())})
	if _, e := Decode(edit(o, &d, "piece layers")); e != api.ErrKind {
		t.Error("layers without a new half", e)
	}
	for text, want := range map[string]api.Errno{"i1e": api.ErrKind, "de": api.ErrKind, "x": api.ErrSyntax, strings.Repeat("l", 13): api.ErrLimit} {
		if _, e := Decode(text); e != want {
			t.Error(text, e)
		}
		if _, e := Raw(text); e != want {
			t.Error(text, e)
		}
		if _, e := Info(text); e != want {
			t.Error(text, e)
		}
	}
	bad := m
	bad.Layers = nil
	if ValidMeta(bad) {
		t.Error("no layers")
	}
	bad.Layers = slices.Clone(m.Layers)
	bad.Layers[0] = []string{hash.Zero()}
	if ValidMeta(bad) {
		t.Error("a layer of an empty file")
	}
	bad = m
	bad.Trackers = make([][]string, 11)
	if ValidMeta(bad) {
		t.Error("trackers")
	}
}

// A root is read whatever its length is: validity asks it, behind all that has no such form.
func TestP62RootOfAnotherLength(t *testing.T) {
	l := []api.File{file(3, "a"), file(40, "b")}
	for _, version := range []int{api.VNew, api.VBoth} {
		m, _ := Make("n", version, 16, false, l, dataOf(l))
		s, _ := Encode(m)
		for k, root := range m.Info.Roots {
			for _, n := range []int{0, 1, 20, 31, 33, 64, 1000} {
				to := benc.Text(strings.Repeat("r", n))
				wrong := edit(s, &to, "info", "file tree", strconv.Itoa(k), "2")
				raw, e := Raw(wrong)
				if e != api.OK {
					t.Error("Raw", n, e)
				}
				if i, e := Info(raw); e != api.ErrData || i.Name != "" || len(i.Files) > 0 {
					t.Error("Info", version, k, n, e)
				}
				if x, e := Decode(wrong); e != api.ErrData || !Same(x, api.Meta{}) {
					t.Error("Decode", version, k, n, e)
				}
				two := benc.Int(2)
				if _, e := Decode(edit(wrong, &two, "info", "private")); e != api.ErrKind {
					t.Error("what has no such form comes first", e)
				}
				bad := m.Info
				bad.Roots = slices.Clone(bad.Roots)
				bad.Roots[k] = strings.Repeat("r", n)
				if part, at, e := Wrong(bad); part != "roots" || at != k || e != api.ErrData {
					t.Error("Wrong", part, at, e)
				}
			}
			to := benc.Text(root)
			if _, e := Decode(edit(s, &to, "info", "file tree", strconv.Itoa(k), "2")); e != api.OK {
				t.Error("as it was", e)
			}
		}
	}
}

func TestP63Proved(t *testing.T) {
	for k, m := range metas() {
		data := dataOf(m.Info.Files)
		if ok, e := Whole(m, data); !ok || e != api.OK {
			t.Error("Whole", k, e)
		}
		for f, s := range data {
			for at := 0; at < len(s); at += 13 {
				b := []byte(s)
				b[at] ^= 1
				other := slices.Clone(data)
				other[f] = string(b)
				if ok, e := Whole(m, other); ok || e != api.OK {
					t.Error("Whole of changed data", k, e)
				}
				for _, new := range []bool{false, true} {
					n, e := Count(m.Info, new)
					if e != api.OK {
						continue
					}
					held, _, _ := files.Where(m.Info.Files, m.Info.Piece, new, f, at)
					for i := range n {
						spans, _ := files.Spans(m.Info.Files, m.Info.Piece, new, i)
						piece, _ := files.Read(m.Info.Files, other, spans)
						size, _ := Size(m.Info, new, i)
						if ok, e := Check(m, new, i, piece); ok != (i != held) || e != api.OK || size != len(piece) {
							t.Error("Check", k, new, i, held, e)
						}
						if ok, _ := Check(m, new, i, piece+"x"); ok {
							t.Error("Check of another length")
						}
					}
				}
			}
		}
		if ok, e := Whole(m, data[1:]); ok || e != api.OK {
			t.Error("Whole", e)
		}
		if hasNew(m.Info) {
			for i := range must(Count(m.Info, true)) {
				if p, e := Piece(m, i); len(p) != 32 || e != api.OK {
					t.Error("Piece", e)
				}
			}
		}
	}
	m := metas()[2]
	if p, _ := Piece(m, 0); p != m.Info.Roots[0] || p != hash.Sum(text("a", 3)) {
		t.Error("Piece")
	}
}

func TestP64TwoHalves(t *testing.T) {
	for k, m := range metas() {
		if m.Info.Version != api.VBoth {
			continue
		}
		old, e := Half(m, false)
		new, f := Half(m, true)
		if e != api.OK || f != api.OK || !ValidMeta(old) || !ValidMeta(new) {
			t.Error("Half", k, e, f)
		}
		bare, _ := files.Bare(m.Info.Files)
		for _, change := range []bool{false, true} {
			a, b := dataOf(m.Info.Files), dataOf(bare)
			if change {
				a[len(a)-1] = "x" + a[len(a)-1][1:]
				b[len(b)-1] = "x" + b[len(b)-1][1:]
			}
			x, _ := Whole(old, a)
			y, _ := Whole(new, b)
			z, _ := Whole(m, a)
			if x == change || y == change || z == change {
				t.Error("Whole", k, x, y, z)
			}
		}
		if !slices.Equal(old.Webs, m.Webs) || new.Comment != m.Comment || len(old.Layers) != 0 || len(old.Info.Roots) != 0 || len(new.Info.Pieces) != 0 {
			t.Error("Half", k)
		}
	}
}

func TestP65Names(t *testing.T) {
	met := map[string]int{}
	for k, m := range metas() {
		form, _ := Form(m.Info)
		if old, ok := met[form]; ok {
			t.Error("one form", k, old)
		}
		met[form] = k
		old, new, short, e := Names(m.Info)
		if e != api.OK || Old(m.Info) != (old == hash.Old(form)) || New(m.Info) != (new == hash.Sum(form)) {
			t.Error("Names", k, e)
		}
		if Old(m.Info) && short != old || !Old(m.Info) && (short != new[:20] || old != "") {
			t.Error("short", k)
		}
	}
}
