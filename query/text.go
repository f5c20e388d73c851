package query

import (
	"strings"

	"covey/addr"
	"covey/api"
	"covey/benc"
	"covey/node"
)

// dict is a dictionary in the making.
type dict struct {
	keys []string
	kids []api.Value
}

func (d *dict) put(key string, v api.Value) {
	d.keys = append(d.keys, key)
	d.kids = append(d.kids, v)
}

// some puts a text, unless it is empty.
func (d *dict) some(key, s string) {
	if s != "" {
		d.put(key, benc.Text(s))
	}
}

// value returns the dictionary; what no form tells is no value.
func (d *dict) value() api.Value {
	v, e := benc.Dict(d.keys, d.kids)
	if e != api.OK {
		return api.Value{}
	}
	return v
}

// form is the dictionary that tells a message.
func form(m api.Query) api.Value {
	d := &dict{}
	d.put("t", benc.Text(m.Number))
	switch m.Kind {
	case asks:
		d.put("y", benc.Text("q"))
		d.put("q", benc.Text(nameOf(m.Verb)))
		d.put("a", asked(m))
		if m.ReadOnly {
			d.put("ro", benc.Int(1))
		}
	case answers:
		d.put("y", benc.Text("r"))
		d.put("r", answered(m))
	default:
		d.put("y", benc.Text("e"))
		d.put("e", benc.List(benc.Int(m.Code), benc.Text(m.Text)))
	}
	return d.value()
}

// targetKey is the key of the target of a query.
func targetKey(verb int) string {
	if verb == api.QPeers || verb == api.QAnnounce {
		return "info_hash"
	}
	return "target"
}

// asked is what a query tells.
func asked(m api.Query) api.Value {
	d := &dict{}
	d.put("id", benc.Text(m.ID))
	if targeted(m.Verb) {
		d.put(targetKey(m.Verb), benc.Text(m.Target))
	}
	d.some("token", m.Token)
	if m.Verb == api.QAnnounce {
		d.put("port", benc.Int(m.Port))
		if m.Own {
			d.put("implied_port", benc.Int(1))
		}
	}
	d.item(m)
	if m.Verb == api.QPut && m.Item.Key != "" && m.Old >= 0 {
		d.put("cas", benc.Int(m.Old))
	}
	return d.value()
}

// answered is what an answer tells.
func answered(m api.Query) api.Value {
	d := &dict{}
	d.put("id", benc.Text(m.ID))
	d.some("token", m.Token)
	four, six, _ := node.Pack(m.Nodes)
	d.some("nodes", four)
	d.some("nodes6", six)
	if len(m.Peers) > 0 {
		l := api.Value{Kind: api.BList}
		for _, a := range m.Peers {
			s, _ := addr.Pack(a)
			l.Kids = append(l.Kids, benc.Text(s))
		}
		d.put("values", l)
	}
	d.item(m)
	if m.Verb == api.QSample {
		d.put("samples", benc.Text(strings.Join(m.Samples, "")))
		d.put("interval", benc.Int(m.Interval))
		d.put("num", benc.Int(m.Total))
	}
	return d.value()
}

// item puts the item of a message, if there is one.
func (d *dict) item(m api.Query) {
	value := m.Plain
	if m.Item.Key != "" {
		value = m.Item.Value
		d.put("k", benc.Text(m.Item.Key))
		d.some("salt", m.Item.Salt)
		d.put("seq", benc.Int(m.Item.Number))
		d.put("sig", benc.Text(m.Item.Sign))
	}
	if value != "" {
		v, _ := benc.Parse(value)
		d.put("v", v)
	}
}

// write writes a valid message.
func write(m api.Query) string {
	s, e := benc.Format(form(m))
	refuse(e != api.OK, e)
	return s
}

// Format writes a message.
func Format(m api.Query) (string, api.Errno) {
	return attempt(func() string {
		ask(m)
		return write(m)
	})
}

// reader reads a dictionary, and notes which of its keys were asked.
type reader struct {
	api.Value
	get  func(key string, kind int) (api.Value, bool)
	left func() int
}

// newReader makes a reader of a value that must be a dictionary.
func newReader(v api.Value) reader {
	refuse(v.Kind != api.BDict, api.ErrSyntax)
	used := map[string]bool{}
	get := func(key string, kind int) (api.Value, bool) {
		for i, k := range v.Keys {
			if k == key {
				refuse(v.Kids[i].Kind != kind && kind != 0, api.ErrSyntax)
				used[key] = true
				return v.Kids[i], true
			}
		}
		return api.Value{}, false
	}
	return reader{v, get, func() int { return len(v.Keys) - len(used) }}
}

func (r reader) text(key string) string {
	v, _ := r.get(key, api.BText)
	return v.S
}

func (r reader) number(key string) int {
	v, _ := r.get(key, api.BInt)
	return v.N
}

// dict returns a dictionary within.
func (r reader) dict(key string) reader {
	v, _ := r.get(key, api.BDict)
	return newReader(v)
}

// end refuses keys that were not asked.
func (r reader) end() { refuse(r.left() > 0, api.ErrSyntax) }

// read are the functions that read what a message of a verb has beside its identifier.
type read struct {
	asked, answered func(r reader, m *api.Query)
}

// verbs are the functions that read the verbs.
func verbs() [8]read {
	nothing := func(reader, *api.Query) {}
	target := func(r reader, m *api.Query) { m.Target = r.text(targetKey(m.Verb)) }
	return [8]read{
		api.QPing:     {nothing, nothing},
		api.QFind:     {target, readNodes},
		api.QPeers:    {target, readPeers},
		api.QAnnounce: {readAnnounce, nothing},
		api.QGet:      {target, readGot},
		api.QPut:      {readPut, nothing},
		api.QSample:   {target, readSamples},
	}
}

func readNodes(r reader, m *api.Query) {
	four, e := node.Unpack(r.text("nodes"), 4)
	refuse(e != api.OK, api.ErrSyntax)
	six, e := node.Unpack(r.text("nodes6"), 6)
	refuse(e != api.OK, api.ErrSyntax)
	m.Nodes = append(four, six...)
}

func readPeers(r reader, m *api.Query) {
	m.Token = r.text("token")
	readNodes(r, m)
	l, _ := r.get("values", api.BList)
	for _, k := range l.Kids {
		a, e := addr.Unpack(k.S)
		refuse(e != api.OK, api.ErrSyntax)
		m.Peers = append(m.Peers, a)
	}
}

func readAnnounce(r reader, m *api.Query) {
	m.Target = r.text(targetKey(m.Verb))
	m.Token = r.text("token")
	m.Port = r.number("port")
	m.Own = r.number("implied_port") == 1
}

// readItem reads an item, if there is one.
func readItem(r reader, m *api.Query) {
	v, ok := r.get("v", 0)
	if !ok {
		return
	}
	value, e := benc.Format(v)
	refuse(e != api.OK, api.ErrSyntax)
	key, signed := r.get("k", api.BText)
	if !signed {
		m.Plain, m.HasPlain = value, true
		return
	}
	m.Item = api.Item{Key: key.S, Salt: r.text("salt"), Number: r.number("seq"), Value: value, Sign: r.text("sig")}
}

func readPut(r reader, m *api.Query) {
	m.Token = r.text("token")
	readItem(r, m)
	old, ok := r.get("cas", api.BInt)
	m.Old = old.N
	if !ok && !m.HasPlain {
		m.Old = -1
	}
}

func readGot(r reader, m *api.Query) {
	m.Token = r.text("token")
	readNodes(r, m)
	readItem(r, m)
}

func readSamples(r reader, m *api.Query) {
	readNodes(r, m)
	s := r.text("samples")
	refuse(len(s)%api.OldSize != 0, api.ErrSyntax)
	for ; s != ""; s = s[api.OldSize:] {
		m.Samples = append(m.Samples, s[:api.OldSize])
	}
	m.Interval = r.number("interval")
	m.Total = r.number("num")
}

// parse reads a text that must be a dictionary.
func parse(text string) reader {
	refuse(len(text) > api.MaxText, api.ErrLong)
	v, e := benc.Parse(text)
	refuse(e != api.OK, api.ErrSyntax)
	return newReader(v)
}

// kind is the kind of a message by its `y`.
func kind(r reader) int {
	k := strings.Index("qre", r.text("y"))
	refuse(len(r.text("y")) != 1 || k < 0, api.ErrSyntax)
	return k + 1
}

// Parse reads a message; an answer needs the verb of its query.
func Parse(text string, verb int) (api.Query, api.Errno) {
	return attempt(func() api.Query {
		refuse(len(text) > api.MaxText, api.ErrLong)
		refuse(!isVerb(verb), api.ErrRange)
		r := parse(text)
		m := api.Query{Kind: kind(r), Number: r.text("t")}
		readBody(r, &m, verb)
		r.end()
		// What is read, but not written so, is none.
		refuse(!Valid(m) || write(m) != text, api.ErrSyntax)
		return m
	})
}

// readBody reads what a message tells.
func readBody(r reader, m *api.Query, verb int) {
	switch m.Kind {
	case fails:
		l, _ := r.get("e", api.BList)
		refuse(len(l.Kids) != 2, api.ErrSyntax)
		m.Code, m.Text = l.Kids[0].N, l.Kids[1].S
	case asks:
		m.Verb = names()[r.text("q")]
		refuse(m.Verb == 0, api.ErrSyntax)
		m.ReadOnly = r.number("ro") == 1
		a := r.dict("a")
		m.ID = a.text("id")
		verbs()[m.Verb].asked(a, m)
		a.end()
	default:
		m.Verb = verb
		a := r.dict("r")
		m.ID = a.text("id")
		verbs()[verb].answered(a, m)
		a.end()
	}
}

// looked is what Look tells.
type looked struct {
	kind   int
	number string
	verb   int
}

// Look returns a message's kind and number, and the verb of a query.
func Look(text string) (k int, number string, verb int, e api.Errno) {
	l, e := attempt(func() looked {
		r := parse(text)
		out := looked{kind: kind(r), number: r.text("t")}
		refuse(out.number == "" || len(out.number) > mostNumber, api.ErrSyntax)
		if out.kind == asks {
			name, ok := r.get("q", api.BText)
			refuse(!ok, api.ErrSyntax)
			out.verb = names()[name.S]
		}
		return out
	})
	return l.kind, l.number, l.verb, e
}
