// Package rules holds all functions against the rules R1, R3, R4 and R7 at once.
package rules

import (
	"maps"
	"math/rand"
	"reflect"
	"slices"
	"testing"

	"covey/addr"
	"covey/api"
	"covey/benc"
	"covey/bits"
	"covey/blame"
	"covey/choke"
	"covey/cloud"
	"covey/delay"
	"covey/desk"
	"covey/disk"
	"covey/extend"
	"covey/fast"
	"covey/files"
	"covey/flow"
	"covey/hash"
	"covey/keep"
	"covey/link"
	"covey/local"
	"covey/look"
	"covey/magnet"
	"covey/meta"
	"covey/node"
	"covey/peer"
	"covey/pick"
	"covey/probe"
	"covey/query"
	"covey/road"
	"covey/sign"
	"covey/swarm"
	"covey/table"
	"covey/tier"
	"covey/token"
	"covey/track"
	"covey/trade"
	"covey/tree"
	"covey/veil"
	"covey/web"
	"covey/wire"
)

// functions are the functions of all layers that no object has.
func functions() map[string]any {
	return map[string]any{
		"bits.New": bits.New, "bits.Full": bits.Full, "bits.Valid": bits.Valid, "bits.Wrong": bits.Wrong, "bits.Has": bits.Has, "bits.Set": bits.Set, "bits.Count": bits.Count, "bits.List": bits.List, "bits.Of": bits.Of, "bits.Not": bits.Not, "bits.And": bits.And, "bits.Or": bits.Or, "bits.Without": bits.Without, "bits.Next": bits.Next, "bits.Rank": bits.Rank, "bits.Select": bits.Select, "bits.Runs": bits.Runs, "bits.FromRuns": bits.FromRuns, "bits.Text": bits.Text, "bits.Parse": bits.Parse,
		"benc.Valid": benc.Valid, "benc.Same": benc.Same, "benc.Format": benc.Format, "benc.Parse": benc.Parse, "benc.Read": benc.Read, "benc.Get": benc.Get, "benc.Set": benc.Set, "benc.Drop": benc.Drop, "benc.Place": benc.Place, "benc.Count": benc.Count, "benc.Depth": benc.Depth, "benc.Int": benc.Int, "benc.Text": benc.Text, "benc.List": benc.List, "benc.Dict": benc.Dict,
		"hash.Sum": hash.Sum, "hash.Old": hash.Old, "hash.Pair": hash.Pair, "hash.Chain": hash.Chain, "hash.Zero": hash.Zero, "hash.New": hash.New, "hash.Check": hash.Check, "hash.Hex": hash.Hex, "hash.FromHex": hash.FromHex, "hash.Number": hash.Number, "hash.Draw": hash.Draw, "hash.Stream": hash.Stream, "hash.Mask": hash.Mask,
		"tree.Leaves": tree.Leaves, "tree.Height": tree.Height, "tree.Zero": tree.Zero, "tree.Root": tree.Root, "tree.Layer": tree.Layer, "tree.FromLayer": tree.FromLayer, "tree.Uncles": tree.Uncles, "tree.Check": tree.Check, "tree.Run": tree.Run, "tree.New": tree.New, "tree.Of": tree.Of,
		"files.Valid": files.Valid, "files.Wrong": files.Wrong, "files.Piece": files.Piece, "files.Total": files.Total, "files.Align": files.Align, "files.Aligned": files.Aligned, "files.Bare": files.Bare, "files.Pieces": files.Pieces, "files.Size": files.Size, "files.Spans": files.Spans, "files.Where": files.Where, "files.Of": files.Of, "files.Cover": files.Cover, "files.Read": files.Read, "files.Path": files.Path, "files.Find": files.Find, "files.Folder": files.Folder, "files.Format": files.Format, "files.Parse": files.Parse,
		"meta.Valid": meta.Valid, "meta.Wrong": meta.Wrong, "meta.ValidMeta": meta.ValidMeta, "meta.Make": meta.Make, "meta.Same": meta.Same, "meta.Old": meta.Old, "meta.New": meta.New, "meta.Form": meta.Form, "meta.Names": meta.Names, "meta.Encode": meta.Encode, "meta.Decode": meta.Decode, "meta.Info": meta.Info, "meta.Raw": meta.Raw, "meta.Count": meta.Count, "meta.Size": meta.Size, "meta.Check": meta.Check, "meta.Piece": meta.Piece, "meta.Whole": meta.Whole, "meta.Half": meta.Half,
		"addr.Valid": addr.Valid, "addr.Text": addr.Text, "addr.Parse": addr.Parse, "addr.Pack": addr.Pack, "addr.Unpack": addr.Unpack, "addr.PackAll": addr.PackAll, "addr.UnpackAll": addr.UnpackAll, "addr.Kind": addr.Kind, "addr.Compare": addr.Compare, "addr.Sort": addr.Sort, "addr.Mask": addr.Mask, "addr.Node": addr.Node, "addr.Secure": addr.Secure, "addr.Near": addr.Near, "addr.V4": addr.V4,
		"sign.Key": sign.Key, "sign.ValidKey": sign.ValidKey, "sign.Times": sign.Times, "sign.Power": sign.Power, "sign.Sign": sign.Sign, "sign.Fits": sign.Fits, "sign.Text": sign.Text, "sign.Make": sign.Make, "sign.Valid": sign.Valid, "sign.Wrong": sign.Wrong, "sign.Place": sign.Place, "sign.Plain": sign.Plain, "sign.Replace": sign.Replace, "sign.Latest": sign.Latest, "sign.Shared": sign.Shared,
		"magnet.Valid": magnet.Valid, "magnet.Same": magnet.Same, "magnet.Escape": magnet.Escape, "magnet.Unescape": magnet.Unescape, "magnet.Format": magnet.Format, "magnet.Parse": magnet.Parse, "magnet.Of": magnet.Of, "magnet.Names": magnet.Names, "magnet.Short": magnet.Short, "magnet.Join": magnet.Join, "magnet.Wants": magnet.Wants,
		"track.ValidAnnounce": track.ValidAnnounce, "track.ValidAnswer": track.ValidAnswer, "track.Ask": track.Ask, "track.Asked": track.Asked, "track.Tell": track.Tell, "track.Told": track.Told, "track.Scrape": track.Scrape, "track.Scraped": track.Scraped, "track.TellScrape": track.TellScrape, "track.ToldScrape": track.ToldScrape, "track.ValidPacket": track.ValidPacket, "track.Encode": track.Encode, "track.Decode": track.Decode, "track.New": track.New,
		"tier.New": tier.New, "tier.Wait": tier.Wait,
		"node.Valid": node.Valid, "node.ValidNode": node.ValidNode, "node.Distance": node.Distance, "node.Common": node.Common, "node.Nearer": node.Nearer, "node.Compare": node.Compare, "node.Sorted": node.Sorted, "node.Nearest": node.Nearest, "node.Bit": node.Bit, "node.Flip": node.Flip, "node.Prefix": node.Prefix, "node.Within": node.Within, "node.Random": node.Random, "node.In": node.In, "node.Middle": node.Middle, "node.Next": node.Next, "node.Pack": node.Pack, "node.Unpack": node.Unpack, "node.Same": node.Same,
		"table.New": table.New, "table.Load": table.Load, "table.Kind": table.Kind,
		"token.New":   token.New,
		"query.Valid": query.Valid, "query.Format": query.Format, "query.Parse": query.Parse, "query.Look": query.Look, "query.Answer": query.Answer, "query.Failed": query.Failed, "query.Same": query.Same, "query.Size": query.Size, "query.Cut": query.Cut,
		"keep.New": keep.New, "keep.NewNode": keep.NewNode,
		"look.New": look.New, "look.Bootstrap": look.Bootstrap, "look.Rounds": look.Rounds,
		"cloud.New":       cloud.New,
		"wire.ValidHello": wire.ValidHello, "wire.Hello": wire.Hello, "wire.ReadHello": wire.ReadHello, "wire.Valid": wire.Valid, "wire.Encode": wire.Encode, "wire.Decode": wire.Decode, "wire.All": wire.All, "wire.New": wire.New, "wire.Field": wire.Field, "wire.Digests": wire.Digests, "wire.Fits": wire.Fits,
		"extend.ValidGreeting": extend.ValidGreeting, "extend.Greet": extend.Greet, "extend.ReadGreeting": extend.ReadGreeting, "extend.NewEnd": extend.NewEnd, "extend.Ask": extend.Ask, "extend.Refuse": extend.Refuse, "extend.Part": extend.Part, "extend.ReadPart": extend.ReadPart, "extend.Collect": extend.Collect, "extend.ValidGossip": extend.ValidGossip, "extend.Gossip": extend.Gossip, "extend.ReadGossip": extend.ReadGossip, "extend.NewTeller": extend.NewTeller, "extend.NewHearer": extend.NewHearer, "extend.ValidPunch": extend.ValidPunch, "extend.Punch": extend.Punch, "extend.ReadPunch": extend.ReadPunch, "extend.NewRelay": extend.NewRelay, "extend.DontHave": extend.DontHave, "extend.ReadDontHave": extend.ReadDontHave,
		"fast.Allowed": fast.Allowed, "fast.New": fast.New,
		"veil.Stream": veil.Stream, "veil.NewCaller": veil.NewCaller, "veil.NewAnswerer": veil.NewAnswerer, "veil.Looks": veil.Looks,
		"local.Valid": local.Valid, "local.Format": local.Format, "local.Parse": local.Parse, "local.New": local.New,
		"link.Valid": link.Valid, "link.New": link.New, "link.Gone": link.Gone,
		"flow.Valid": flow.Valid, "flow.Encode": flow.Encode, "flow.Decode": flow.Decode, "flow.Before": flow.Before, "flow.Marked": flow.Marked, "flow.Named": flow.Named, "flow.New": flow.New,
		"delay.New": delay.New, "delay.Less": delay.Less, "delay.NewTrip": delay.NewTrip, "delay.NewOrdinary": delay.NewOrdinary,
		"probe.New": probe.New, "probe.Find": probe.Find, "probe.Steps": probe.Steps,
		"road.Valid": road.Valid, "road.Run": road.Run, "road.Shares": road.Shares, "road.Longest": road.Longest, "road.Alone": road.Alone,
		"pick.New":  pick.New,
		"web.Valid": web.Valid, "web.Path": web.Path, "web.Fetches": web.Fetches, "web.Pieces": web.Pieces, "web.Header": web.Header, "web.ParseHeader": web.ParseHeader, "web.New": web.New,
		"choke.Valid": choke.Valid, "choke.Round": choke.Round, "choke.Optimistic": choke.Optimistic, "choke.Changes": choke.Changes, "choke.Choose": choke.Choose, "choke.Slots": choke.Slots, "choke.By": choke.By, "choke.NewSuper": choke.NewSuper,
		"trade.Valid": trade.Valid, "trade.New": trade.New, "trade.Equal": trade.Equal,
		"disk.New": disk.New, "disk.Open": disk.Open,
		"blame.New":        blame.New,
		"peer.ValidClient": peer.ValidClient, "peer.New": peer.New,
		"swarm.Valid": swarm.Valid, "swarm.New": swarm.New,
		"desk.New": desk.New, "desk.Valid": desk.Valid, "desk.Lines": desk.Lines, "desk.Replay": desk.Replay, "desk.Parting": desk.Parting,
	}
}

// objects are nil objects and empty ones of all layers.
func objects() []any {
	return []any{
		(*hash.Hasher)(nil), &hash.Hasher{},
		(*tree.Tree)(nil), &tree.Tree{},
		(*track.Tracker)(nil), &track.Tracker{},
		(*tier.Tiers)(nil), &tier.Tiers{},
		(*table.Table)(nil), &table.Table{},
		(*token.Keeper)(nil), &token.Keeper{},
		(*keep.Store)(nil), &keep.Store{},
		(*keep.Node)(nil), &keep.Node{},
		(*look.Lookup)(nil), &look.Lookup{},
		(*cloud.Cloud)(nil), &cloud.Cloud{},
		(*wire.Reader)(nil), &wire.Reader{},
		(*extend.End)(nil), &extend.End{},
		(*extend.Collector)(nil), &extend.Collector{},
		(*extend.Teller)(nil), &extend.Teller{},
		(*extend.Hearer)(nil), &extend.Hearer{},
		(*extend.Relay)(nil), &extend.Relay{},
		(*fast.Side)(nil), &fast.Side{},
		(*veil.Caller)(nil), &veil.Caller{},
		(*veil.Answerer)(nil), &veil.Answerer{},
		(*local.Crier)(nil), &local.Crier{},
		(*link.Link)(nil), &link.Link{},
		(*flow.End)(nil), &flow.End{},
		(*delay.Control)(nil), &delay.Control{},
		(*delay.Trip)(nil), &delay.Trip{},
		(*delay.Ordinary)(nil), &delay.Ordinary{},
		(*probe.Search)(nil), &probe.Search{},
		(*pick.Picker)(nil), &pick.Picker{},
		(*web.Client)(nil), &web.Client{},
		(*choke.Super)(nil), &choke.Super{},
		(*trade.Game)(nil), &trade.Game{},
		(*disk.Disk)(nil), &disk.Disk{},
		(*disk.Store)(nil), &disk.Store{},
		(*blame.Blame)(nil), &blame.Blame{},
		(*peer.Peer)(nil), &peer.Peer{},
		(*swarm.Swarm)(nil), &swarm.Swarm{},
		(*desk.Desk)(nil), &desk.Desk{},
	}
}

// tells are functions that tell more than the error where something is wrong, as their chapters say.
func tells(name string) bool {
	switch name {
	case "bits.Wrong", "benc.Read", "files.Wrong", "files.Parse", "meta.Wrong", "sign.Wrong", "track.Decode", "wire.ReadHello", "wire.Decode", "flow.Decode", "local.Parse", "desk.Lines", "*desk.Desk.Run":
		return true
	}
	return false
}

// texts are texts that some functions take for more than random bytes.
func texts() []string {
	return []string{
		"", "le", "i5e", "d1:ad2:id20:xxxxxxxxxxxxxxxxxxxxe1:q4:ping1:t2:aa1:y1:qe", "http://a/", "10.0.0.1:80", "1,3-5", "20 a\n5 b\n", "a",
		"magnet:?xt=urn:cvo:0000000000000000000000000000000000000000", "bytes=5-7", "file 20 a", "\x00\x00\x00\x05\x04\x00\x00\x00\x05", "\x00\x00\x00\x00\x00\x00\x00\x25",
	}
}

func numbers() []int {
	return []int{0, 1, 2, 3, 4, 5, 6, 7, 8, 10, 16, 20, 32, 64, -1, -2, 100, 255, 256, 1000, 1024, 4096, 65535, 65536, 65537, 1000000000, 1000000001, 1 << 31, 1 << 32, 1<<61 - 1, 1 << 62, 1<<63 - 1, -1 << 63}
}

// maker makes arguments; pool are objects that were made before.
type maker struct {
	*rand.Rand
	pool []reflect.Value
}

func (m *maker) text() string {
	if l := texts(); m.Intn(2) == 0 {
		return l[m.Intn(len(l))]
	}
	sizes := []int{20, 32, m.Intn(70), m.Intn(3), 4, 16}
	b := make([]byte, sizes[m.Intn(len(sizes))])
	m.Read(b)
	return string(b)
}

// value makes a value of a type.
func (m *maker) value(t reflect.Type, depth int) reflect.Value {
	v := reflect.New(t).Elem()
	switch t.Kind() {
	case reflect.Int:
		l := numbers()
		v.SetInt(int64(l[m.Intn(len(l))]))
	case reflect.Uint8, reflect.Uint64:
		v.SetUint(uint64(m.Intn(256)))
	case reflect.Bool:
		v.SetBool(m.Intn(2) == 0)
	case reflect.String:
		v.SetString(m.text())
	case reflect.Slice:
		// Spare capacity, which nobody may write to.
		n := m.Intn(4) * (1 - depth/5)
		s := reflect.MakeSlice(t, n, n+2)
		for i := range n {
			s.Index(i).Set(m.value(t.Elem(), depth+1))
		}
		v.Set(s)
	case reflect.Array:
		for i := range t.Len() {
			v.Index(i).Set(m.value(t.Elem(), depth+1))
		}
	case reflect.Struct:
		for i := range t.NumField() {
			if v.Field(i).CanSet() && m.Intn(4) > 0 {
				v.Field(i).Set(m.value(t.Field(i).Type, depth+1))
			}
		}
	case reflect.Pointer:
		for _, o := range m.pool {
			if o.Type() == t && m.Intn(2) == 0 {
				return o
			}
		}
	}
	return v
}

// clone copies a value with all of its spare capacity; objects are left as they are.
func clone(v reflect.Value) reflect.Value {
	out := reflect.New(v.Type()).Elem()
	switch v.Kind() {
	case reflect.Slice:
		if v.IsNil() {
			return out
		}
		s := reflect.MakeSlice(v.Type(), v.Cap(), v.Cap())
		whole := v.Slice(0, v.Cap())
		for i := range v.Cap() {
			s.Index(i).Set(clone(whole.Index(i)))
		}
		return s.Slice(0, v.Len())
	case reflect.Struct:
		out.Set(v)
		for i := range v.NumField() {
			if out.Field(i).CanSet() {
				out.Field(i).Set(clone(v.Field(i)))
			}
		}
		return out
	}
	out.Set(v)
	return out
}

// whole lets all of a slice be seen, with its spare capacity.
func whole(v reflect.Value) any {
	if v.Kind() == reflect.Slice && !v.IsNil() {
		return v.Slice(0, v.Cap()).Interface()
	}
	return v.Interface()
}

// spoil writes to all memory that a result has.
func spoil(v reflect.Value) {
	switch v.Kind() {
	case reflect.Slice:
		for i := range v.Len() {
			spoil(v.Index(i))
			v.Index(i).SetZero()
		}
	case reflect.Struct:
		for i := range v.NumField() {
			if v.Type().Field(i).IsExported() {
				spoil(v.Field(i))
			}
		}
	}
}

// empty reports whether a result is zero; lists may be nil or empty.
func empty(v reflect.Value) bool {
	if v.Kind() == reflect.Slice {
		return v.Len() == 0
	}
	return v.IsZero()
}

// args makes the arguments of a function.
func (m *maker) args(t reflect.Type) []reflect.Value {
	var in []reflect.Value
	for i := range t.NumIn() {
		in = append(in, m.value(t.In(i), 0))
	}
	return in
}

func run(f reflect.Value, in []reflect.Value) []reflect.Value {
	if f.Type().IsVariadic() {
		return f.CallSlice(in)
	}
	return f.Call(in)
}

// call calls a function, and holds what it does against the rules.
func call(t *testing.T, m *maker, name string, f reflect.Value, pure bool) {
	defer func() {
		if x := recover(); x != nil {
			t.Errorf("R1: %s panics: %v", name, x)
		}
	}()
	in := m.args(f.Type())
	var before []reflect.Value
	for _, v := range in {
		before = append(before, clone(v))
	}
	out := run(f, in)
	last := len(out) - 1
	if last >= 0 && out[last].Type() == reflect.TypeFor[api.Errno]() && !out[last].IsZero() && !tells(name) {
		for _, v := range out[:last] {
			if !empty(v) {
				t.Errorf("R3: %s: %v with an error", name, v)
			}
		}
	}
	for _, v := range out {
		if v.Kind() == reflect.Pointer && !v.IsNil() && len(m.pool) < 2000 {
			m.pool = append(m.pool, v)
		}
	}
	var again []reflect.Value
	if pure {
		again = run(f, in)
		for i, v := range out {
			if v.Kind() != reflect.Pointer && !reflect.DeepEqual(v.Interface(), again[i].Interface()) {
				t.Errorf("R7: %s tells %v, then %v", name, v, again[i])
			}
		}
	}
	for _, v := range append(out, again...) {
		c := reflect.New(v.Type()).Elem()
		c.Set(v)
		spoil(c)
	}
	for i, v := range in {
		if v.Kind() != reflect.Pointer && !reflect.DeepEqual(whole(v), whole(before[i])) {
			t.Errorf("R4: %s changes an argument, or shares memory with it", name)
		}
	}
}

func TestP1Functions(t *testing.T) {
	m := &maker{Rand: rand.New(rand.NewSource(1))}
	for range 150 {
		all := functions()
		for _, name := range slices.Sorted(maps.Keys(all)) {
			call(t, m, name, reflect.ValueOf(all[name]), true)
		}
	}
}

func TestP1Methods(t *testing.T) {
	m := &maker{Rand: rand.New(rand.NewSource(2))}
	for range 60 {
		all := functions()
		for _, name := range slices.Sorted(maps.Keys(all)) {
			call(t, m, name, reflect.ValueOf(all[name]), true)
		}
	}
	for _, o := range objects() {
		m.pool = append(m.pool, reflect.ValueOf(o))
	}
	for range 20 {
		for _, o := range m.pool[:len(m.pool):len(m.pool)] {
			for i := range o.NumMethod() {
				call(t, m, o.Type().String()+"."+o.Type().Method(i).Name, o.Method(i), false)
			}
		}
	}
}
