package cloud

import (
	"covey/api"
	"covey/keep"
	"covey/node"
)

// kind is how a node answers.
type kind interface {
	// answer answers a text from an address; false if it does not.
	answer(now int, from api.Addr, asked string) (string, bool)
}

// keeper is an honest node, or a read-only one, which refuses.
type keeper struct{ node *keep.Node }

func (k keeper) answer(now int, from api.Addr, asked string) (string, bool) {
	s, e := k.node.Answer(now, from, asked)
	return s, e == api.OK
}

// dead does not answer.
type dead struct{}

func (dead) answer(int, api.Addr, string) (string, bool) { return "", false }

// liar tells nodes that there are not, nearer and nearer.
type liar struct{ own api.Node }

func (l liar) answer(_ int, _ api.Addr, asked string) (string, bool) {
	return lie(l.own.ID, asked, func(target string) []api.Node {
		common := must(node.Common(target, l.own.ID))
		var out []api.Node
		for k := 1; k <= near; k++ {
			id := must(node.In(target, min(8*api.OldSize, common+8), l.own.ID, k))
			out = append(out, api.Node{ID: id, Addr: nowhere(l.own.Addr.Family, k)})
		}
		return out
	})
}

// mirror tells itself alone.
type mirror struct{ own api.Node }

func (m mirror) answer(_ int, _ api.Addr, asked string) (string, bool) {
	return lie(m.own.ID, asked, func(string) []api.Node { return []api.Node{m.own} })
}

// kindOf returns how a node answers.
func kindOf(r *resident) kind {
	switch r.lived.Kind {
	case api.CHonest, api.CReadOnly:
		return keeper{r.node}
	case api.CLiar:
		return liar{r.lived.Node}
	case api.CMirror:
		return mirror{r.lived.Node}
	}
	return dead{}
}
