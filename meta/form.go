package meta

import (
	"slices"
	"strings"

	"covey/api"
	"covey/benc"
	"covey/hash"
)

// dict is a dictionary in the making.
type dict struct {
	keys []string
	kids []api.Value
}

func (d *dict) put(key string, v api.Value) {
	d.keys = append(d.keys, key)
	d.kids = append(d.kids, v)
}

// value returns the dictionary: a value, whether it is a valid one or not.
func (d *dict) value() api.Value {
	order := make([]int, len(d.keys))
	for i := range order {
		order[i] = i
	}
	slices.SortFunc(order, func(a, b int) int { return strings.Compare(d.keys[a], d.keys[b]) })
	v := api.Value{Kind: api.BDict}
	for _, i := range order {
		v.Keys = append(v.Keys, d.keys[i])
		v.Kids = append(v.Kids, d.kids[i])
	}
	return v
}

func texts(l []string) api.Value {
	v := api.Value{Kind: api.BList}
	for _, s := range l {
		v.Kids = append(v.Kids, benc.Text(s))
	}
	return v
}

// fileForm is a file as the old half tells it.
func fileForm(f api.File) api.Value {
	d := &dict{}
	d.put("length", benc.Int(f.Length))
	d.put("path", texts(f.Path))
	if f.Pad {
		d.put("attr", benc.Text("p"))
	}
	return d.value()
}

// infoForm is the form of a valid info.
func infoForm(i api.Info) api.Value {
	d := &dict{}
	d.put("name", benc.Text(i.Name))
	d.put("piece length", benc.Int(i.Piece))
	if i.Private {
		d.put("private", benc.Int(1))
	}
	if hasOld(i) {
		l := api.Value{Kind: api.BList}
		for _, f := range i.Files {
			l.Kids = append(l.Kids, fileForm(f))
		}
		d.put("files", l)
		d.put("pieces", benc.Text(strings.Join(i.Pieces, "")))
	}
	if hasNew(i) {
		l := api.Value{Kind: api.BList}
		for k, f := range proper(i.Files) {
			entry := api.Value{Kind: api.BList, Kids: []api.Value{texts(f.Path), benc.Int(f.Length)}}
			if f.Length > 0 {
				entry.Kids = append(entry.Kids, benc.Text(i.Roots[k]))
			}
			l.Kids = append(l.Kids, entry)
		}
		d.put("meta version", benc.Int(2))
		d.put("file tree", l)
	}
	return d.value()
}

func format(v api.Value) string {
	s, e := benc.Format(v)
	refuse(e != api.OK, api.ErrLimit)
	return s
}

// Form is an info's canonical text.
func Form(i api.Info) (string, api.Errno) {
	return attempt(func() string {
		askInfo(i)
		return format(infoForm(i))
	})
}

// Names are an info's names.
func Names(i api.Info) (old, new, short string, e api.Errno) {
	form, e := Form(i)
	if e != api.OK {
		return "", "", "", e
	}
	if hasNew(i) {
		new = hash.Sum(form)
		short = new[:api.OldSize]
	}
	if hasOld(i) {
		old = hash.Old(form)
		short = old
	}
	return old, new, short, api.OK
}

// layersForm is the dictionary of layers by their roots.
func layersForm(m api.Meta) *dict {
	d := &dict{}
	for k, layer := range m.Layers {
		if root := m.Info.Roots[k]; len(layer) > 0 && !slices.Contains(d.keys, root) {
			d.put(root, benc.Text(strings.Join(layer, "")))
		}
	}
	return d
}

// Encode writes a metainfo.
func Encode(m api.Meta) (string, api.Errno) {
	return attempt(func() string {
		askMeta(m)
		d := &dict{}
		d.put("info", infoForm(m.Info))
		if l := layersForm(m); len(l.keys) > 0 {
			d.put("piece layers", l.value())
		}
		if len(m.Trackers) > 0 {
			l := api.Value{Kind: api.BList}
			for _, tier := range m.Trackers {
				l.Kids = append(l.Kids, texts(tier))
			}
			d.put("announce-list", l)
		}
		if len(m.Webs) > 0 {
			d.put("url-list", texts(m.Webs))
		}
		if m.Comment != "" {
			d.put("comment", benc.Text(m.Comment))
		}
		return format(d.value())
	})
}
