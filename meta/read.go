package meta

import (
	"slices"

	"covey/api"
	"covey/benc"
)

// reader reads a value of a form; what the form has not is ErrKind.
type reader struct {
	api.Value
}

// need leaves with ErrKind if the form is not right.
func need(right bool) { refuse(!right, api.ErrKind) }

func (r reader) text() string {
	need(r.Kind == api.BText)
	return r.S
}

func (r reader) number() int {
	need(r.Kind == api.BInt)
	return r.N
}

// list returns the kids of a list.
func (r reader) list() []reader {
	need(r.Kind == api.BList)
	var out []reader
	for _, k := range r.Kids {
		out = append(out, reader{k})
	}
	return out
}

func (r reader) texts() []string {
	var out []string
	for _, k := range r.list() {
		out = append(out, k.text())
	}
	return out
}

// has reports whether a dictionary has a key.
func (r reader) has(key string) bool { return slices.Contains(r.Keys, key) }

// at returns the value of a key that must be there.
func (r reader) at(key string) reader {
	i := slices.Index(r.Keys, key)
	need(i >= 0)
	return reader{r.Kids[i]}
}

// only asks for a dictionary that has no other keys than these.
func (r reader) only(keys ...string) {
	need(r.Kind == api.BDict)
	for _, k := range r.Keys {
		need(slices.Contains(keys, k))
	}
}

// digests cuts a text into digests.
func (r reader) digests(size int) []string {
	s := r.text()
	need(len(s)%size == 0)
	var out []string
	for ; s != ""; s = s[size:] {
		out = append(out, s[:size])
	}
	return out
}

func (r reader) file() api.File {
	r.only("length", "path", "attr")
	f := api.File{Path: r.at("path").texts(), Length: r.at("length").number()}
	if r.has("attr") {
		need(r.at("attr").text() == "p")
		f.Pad = true
	}
	return f
}

// tree reads a file tree: files and their roots, of any length (validity asks it).
func (r reader) tree() (l []api.File, roots []string) {
	for _, x := range r.list() {
		kids := x.list()
		need(len(kids) == 2 || len(kids) == 3)
		f := api.File{Path: kids[0].texts(), Length: kids[1].number()}
		need((len(kids) == 3) == (f.Length != 0))
		root := ""
		if len(kids) == 3 {
			root = kids[2].text()
		}
		l = append(l, f)
		roots = append(roots, root)
	}
	return l, roots
}

// version tells the version by the keys, and asks that there are no others.
func (r reader) version() int {
	need(r.Kind == api.BDict)
	if !r.has("meta version") {
		r.only("name", "piece length", "private", "files", "pieces")
		return api.VOld
	}
	need(r.at("meta version").number() == 2)
	if !r.has("pieces") {
		r.only("name", "piece length", "private", "meta version", "file tree")
		return api.VNew
	}
	r.only("name", "piece length", "private", "meta version", "file tree", "files", "pieces")
	return api.VBoth
}

// info reads an info's form; differ tells that the files of two halves are not the same.
func (r reader) info() (i api.Info, differ bool) {
	i.Version = r.version()
	i.Name = r.at("name").text()
	i.Piece = r.at("piece length").number()
	if r.has("private") {
		need(r.at("private").number() == 1)
		i.Private = true
	}
	if hasOld(i) {
		for _, f := range r.at("files").list() {
			i.Files = append(i.Files, f.file())
		}
		i.Pieces = r.at("pieces").digests(api.OldSize)
	}
	if hasNew(i) {
		l, roots := r.at("file tree").tree()
		i.Roots = roots
		if i.Version == api.VNew {
			i.Files = l
		} else {
			differ = !slices.EqualFunc(proper(i.Files), l, sameFile)
		}
	}
	return i, differ
}

// Info reads an info's form.
func Info(form string) (api.Info, api.Errno) {
	return attempt(func() api.Info {
		i, differ := reader{must(benc.Parse(form))}.info()
		refuse(differ || !Valid(i), api.ErrData)
		return i
	})
}

// layers reads the layers by their roots.
func (r reader) layers() map[string][]string {
	if !r.has("piece layers") {
		return nil
	}
	d := r.at("piece layers")
	need(d.Kind == api.BDict && len(d.Keys) > 0)
	out := map[string][]string{}
	for k, root := range d.Keys {
		out[root] = reader{d.Kids[k]}.digests(api.NewSize)
	}
	return out
}

// rest reads what stands beside the info and the layers.
func (r reader) rest(m *api.Meta) {
	if r.has("announce-list") {
		for _, tier := range r.at("announce-list").list() {
			m.Trackers = append(m.Trackers, tier.texts())
		}
		need(len(m.Trackers) > 0)
	}
	if r.has("url-list") {
		m.Webs = r.at("url-list").texts()
		need(len(m.Webs) > 0)
	}
	if r.has("comment") {
		m.Comment = r.at("comment").text()
		need(m.Comment != "")
	}
}

// prove gives each file its layer; all layers must be asked for, and make their roots.
func prove(m *api.Meta, layers map[string][]string) {
	asked := map[string]bool{}
	for k, f := range proper(m.Info.Files) {
		var layer []string
		if root := m.Info.Roots[k]; f.Length > m.Info.Piece {
			layer = slices.Clone(layers[root])
			asked[root] = true
			refuse(!makesRoot(f, m.Info.Piece, layer, root), api.ErrProof)
		}
		m.Layers = append(m.Layers, layer)
	}
	refuse(len(asked) != len(layers), api.ErrProof)
}

// Decode reads a metainfo.
func Decode(s string) (api.Meta, api.Errno) {
	return attempt(func() api.Meta {
		r := reader{must(benc.Parse(s))}
		r.only("info", "piece layers", "announce-list", "url-list", "comment")
		m := api.Meta{}
		i, differ := r.at("info").info()
		m.Info = i
		layers := r.layers()
		need(hasNew(i) || layers == nil)
		r.rest(&m)
		refuse(differ || !Valid(i) || !validRest(m), api.ErrData)
		if hasNew(i) {
			prove(&m, layers)
		}
		return m
	})
}

// Raw returns the bytes of the info as they stand in a metainfo's text.
func Raw(s string) (string, api.Errno) {
	return attempt(func() string {
		v := must(benc.Parse(s))
		need(v.Kind == api.BDict && slices.Contains(v.Keys, "info"))
		from, to, e := benc.Place(s, []string{"info"})
		refuse(e != api.OK, e)
		return s[from:to]
	})
}
