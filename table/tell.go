package table

import (
	"covey/api"
	"covey/node"
)

// told runs f at a time that is told, if nothing is wrong.
func told[T any](t *Table, now, family int, f func() T) (T, api.Errno) {
	return attempt(func() T {
		t.ask()
		t.askTime(now)
		askFamily(family)
		out := f()
		t.now = now
		return out
	})
}

// kinds returns entries with what they are at a time.
func kinds(now int, l []api.Entry) []api.Entry {
	var out []api.Entry
	for _, e := range l {
		e.Kind = kind(now, e)
		out = append(out, e)
	}
	return out
}

// Nearest returns the nearest good entries, then the nearest doubtful ones.
func (t *Table) Nearest(now int, target string, family, most int) ([]api.Node, api.Errno) {
	return attempt(func() []api.Node {
		t.ask()
		askIDs(target)
		t.askTime(now)
		askFamily(family)
		refuse(most < 0, api.ErrRange)
		pick := func(want, most int) []api.Node {
			var l []api.Node
			for e := range t.entries(family) {
				if kind(now, e) == want {
					l = append(l, e.Node)
				}
			}
			return must(node.Nearest(target, l, most))
		}
		out := pick(good, most)
		out = append(out, pick(doubtful, most-len(out))...)
		t.now = now
		return out
	})
}

// Buckets returns the buckets of a family.
func (t *Table) Buckets(now, family int) ([]api.Bucket, api.Errno) {
	return told(t, now, family, func() []api.Bucket {
		var out []api.Bucket
		for _, b := range t.families[family] {
			out = append(out, api.Bucket{Prefix: b.prefix, Bits: b.bits, Entries: kinds(now, b.entries), Spare: kinds(now, b.spare)})
		}
		return out
	})
}

// Find returns an entry or a spare one.
func (t *Table) Find(now int, id string, family int) (api.Entry, api.Errno) {
	if !node.Valid(id) {
		return api.Entry{}, api.ErrInvalid
	}
	return told(t, now, family, func() api.Entry {
		b := t.of(family, id)
		for _, l := range [][]api.Entry{b.entries, b.spare} {
			for _, e := range kinds(now, l) {
				if e.Node.ID == id {
					return e
				}
			}
		}
		panic(api.ErrNone)
	})
}

// Refresh returns the identifiers to look for in buckets that have not changed for long.
func (t *Table) Refresh(now, family int) ([]string, api.Errno) {
	return told(t, now, family, func() []string {
		var out []string
		for _, b := range t.families[family] {
			if now-b.changed > fresh {
				out = append(out, must(node.In(b.prefix, b.bits, t.own[:16], b.bits)))
			}
		}
		return out
	})
}

// Doubtful returns for each bucket its first doubtful entry.
func (t *Table) Doubtful(now, family int) ([]api.Node, api.Errno) {
	return told(t, now, family, func() []api.Node {
		var out []api.Node
		for _, b := range t.families[family] {
			for _, e := range b.entries {
				if kind(now, e) == doubtful {
					out = append(out, e.Node)
					break
				}
			}
		}
		return out
	})
}

// counts are how many entries there are of each kind, and how many spare ones.
type counts struct{ good, doubtful, bad, spare int }

// Count counts the entries and spare ones of a family.
func (t *Table) Count(now, family int) (good, doubtful, bad, spare int, e api.Errno) {
	c, e := told(t, now, family, func() counts {
		var by [4]int
		for e := range t.entries(family) {
			by[kind(now, e)]++
		}
		n := 0
		for range t.spares(family) {
			n++
		}
		return counts{by[api.NGood], by[api.NDoubtful], by[api.NBad], n}
	})
	return c.good, c.doubtful, c.bad, c.spare, e
}

// Own returns the own identifier.
func (t *Table) Own() string {
	if t == nil {
		return ""
	}
	return t.own
}
