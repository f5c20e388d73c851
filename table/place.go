package table

import (
	"slices"

	"covey/api"
	"covey/node"
)

// What a step of placing a node tells.
const (
	next    = iota // the next step is tried
	in             // it is known now
	refused        // it is not
	anew           // all begins anew
)

// placing is a node that is to be placed, with the bucket of its identifier.
type placing struct {
	t        *Table
	b        *bucket
	now      int
	e        api.Entry
	answered bool
}

// steps are the ways in which a node may be placed, in the order in which they are tried.
func steps() [6]func(p placing) int {
	return [6]func(p placing) int{askOthers, update, enter, replace, split, stepAside}
}

// put places a node, and reports whether it is known now.
func (t *Table) put(p placing) bool {
	for {
		p.b = t.of(p.e.Node.Addr.Family, p.e.Node.ID)
		verdict := next
		for _, step := range steps() {
			verdict = step(p)
			if verdict != next {
				break
			}
		}
		if verdict == in {
			p.b.changed = p.now
		}
		if verdict != anew {
			return verdict == in
		}
	}
}

// other reports whether an entry has the address or the identifier of a node, but not both.
func other(e api.Entry, n api.Node) bool {
	return (e.Node.Addr == n.Addr) != (e.Node.ID == n.ID)
}

// askOthers refuses the own identifier, and one that a good entry gainsays; others that gainsay it are taken out.
func askOthers(p placing) int {
	n := p.e.Node
	if n.ID == p.t.own {
		return refused
	}
	buckets := p.t.families[n.Addr.Family]
	for _, b := range buckets {
		for _, l := range [][]api.Entry{b.entries, b.spare} {
			for _, e := range l {
				if other(e, n) && kind(p.now, e) == good {
					return refused
				}
			}
		}
	}
	for _, b := range buckets {
		b.entries = slices.DeleteFunc(b.entries, func(e api.Entry) bool { return other(e, n) })
		b.spare = slices.DeleteFunc(b.spare, func(e api.Entry) bool { return other(e, n) })
	}
	return next
}

// update notes that one that is known was seen.
func update(p placing) int {
	b := p.b
	if at := index(b.entries, p.e.Node); at >= 0 {
		note(&b.entries[at], p.now, p.answered)
		return in
	}
	at := index(b.spare, p.e.Node)
	if at < 0 {
		return next
	}
	note(&b.spare[at], p.now, p.answered)
	if w := worst(b.entries); p.answered && w >= 0 {
		e := b.spare[at]
		b.spare = remove(b.spare, at)
		b.entries = append(remove(b.entries, w), e)
	}
	return in
}

// enter makes an entry of it, if there is room.
func enter(p placing) int {
	if len(p.b.entries) == room {
		return next
	}
	p.b.entries = append(p.b.entries, p.e)
	return in
}

// replace puts it in the place of an entry that is bad.
func replace(p placing) int {
	w := worst(p.b.entries)
	if w < 0 {
		return next
	}
	p.b.entries = append(remove(p.b.entries, w), p.e)
	return in
}

// split cuts the bucket of the own identifier into two.
func split(p placing) int {
	b := p.b
	if b.bits == mostBit || !b.holds(p.t.own) {
		return next
	}
	zero := &bucket{bounds: bounds{b.prefix, b.bits + 1}, changed: b.changed}
	one := &bucket{bounds: bounds{must(node.Flip(b.prefix, b.bits)), b.bits + 1}, changed: b.changed}
	half := func(e api.Entry) *bucket {
		if one.holds(e.Node.ID) {
			return one
		}
		return zero
	}
	for _, e := range b.entries {
		h := half(e)
		h.entries = append(h.entries, e)
	}
	for _, e := range b.spare {
		h := half(e)
		h.spare = append(h.spare, e)
	}
	family := p.e.Node.Addr.Family
	at := slices.Index(p.t.families[family], b)
	p.t.families[family] = slices.Replace(p.t.families[family], at, at+1, zero, one)
	return anew
}

// stepAside makes it a spare one, if there is room or another one goes.
func stepAside(p placing) int {
	b := p.b
	if len(b.spare) == room {
		at := slices.IndexFunc(b.spare, func(e api.Entry) bool { return e.Failed >= 2 })
		if at < 0 && p.answered {
			at = slices.IndexFunc(b.spare, func(e api.Entry) bool { return e.Answered < 0 })
		}
		if at < 0 {
			return refused
		}
		b.spare = remove(b.spare, at)
	}
	b.spare = append(b.spare, p.e)
	return in
}
