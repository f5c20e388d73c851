package keep

import (
	"covey/api"
	"covey/node"
	"covey/query"
	"covey/table"
	"covey/token"
)

const (
	room        = 100
	tokenPeriod = 300000
	near        = 8
	mostPeers   = 50
)

// Node is a node: its table, its store and its tokens.
type Node struct {
	*stock
	id       string
	readOnly bool
	last     int
	table    *table.Table
	store    *Store
	keeper   *token.Keeper
}

// NewNode makes a node.
func NewNode(id, seed string, readOnly bool) (*Node, api.Errno) {
	return attempt(func() *Node {
		refuse(!node.Valid(id), api.ErrInvalid)
		s := must(New(seed, room, room, room))
		return &Node{stock: s.stock, id: id, readOnly: readOnly, table: must(table.New(id)), store: s, keeper: must(token.New(seed, tokenPeriod, 0))}
	})
}

// Table returns the node's table.
func (n *Node) Table() *table.Table {
	if n == nil {
		return nil
	}
	return n.table
}

// Store returns the node's store.
func (n *Node) Store() *Store {
	if n == nil {
		return nil
	}
	return n.store
}

// ID returns the node's identifier.
func (n *Node) ID() string {
	if n == nil {
		return ""
	}
	return n.id
}

// asking is a query that is to be answered, and what its answer has so far.
type asking struct {
	now  int
	from api.Addr
	m    api.Query
	out  api.Query
}

// fault is an error message that leaves an answer.
type fault struct {
	code int
	text string
}

// verbs are the ways in which verbs are answered.
func verbs() [8]func(n *Node, a *asking) {
	return [8]func(n *Node, a *asking){
		api.QPing: (*Node).ping, api.QFind: (*Node).find, api.QPeers: (*Node).getPeers, api.QAnnounce: (*Node).takePeer,
		api.QGet: (*Node).getItem, api.QPut: (*Node).takeItem, api.QSample: (*Node).sample,
	}
}

func (n *Node) ping(*asking) {}

// find tells the nearest nodes of the family of the one that asks.
func (n *Node) find(a *asking) {
	a.out.Nodes = must(n.table.Nearest(a.now, a.m.Target, a.from.Family, near))
}

// give tells a token.
func (n *Node) give(a *asking) { a.out.Token = must(n.keeper.Give(a.now, a.from)) }

func (n *Node) getPeers(a *asking) {
	n.find(a)
	n.give(a)
	a.out.Peers = must(n.store.Peers(a.now, a.m.Target, a.from.Family, mostPeers))
}

func (n *Node) getItem(a *asking) {
	n.find(a)
	n.give(a)
	item, plain, e := n.store.Get(a.now, a.m.Target)
	if e != api.OK {
		return
	}
	with := a.out
	with.Item, with.Plain, with.HasPlain = item, plain, item.Key == ""
	// A value that stands too deep in a message can't be told.
	if query.Valid(with) {
		a.out = with
	}
}

func (n *Node) sample(a *asking) {
	n.find(a)
	a.out.Samples = n.samples(a.now)
	a.out.Interval = (interval - a.now%interval) / 1000
	a.out.Total = len(n.who)
}

// askToken leaves with an error message if the token is not right.
func (n *Node) askToken(a *asking) {
	if !must(n.keeper.Right(a.now, a.from, a.m.Token)) {
		panic(fault{203, "bad token"})
	}
}

func (n *Node) takePeer(a *asking) {
	n.askToken(a)
	p := a.from
	if !a.m.Own {
		p.Port = a.m.Port
	}
	n.announce(a.now, a.m.Target, p, false)
}

func (n *Node) takeItem(a *asking) {
	n.askToken(a)
	var e api.Errno
	if a.m.HasPlain {
		_, e = n.store.PutPlain(a.now, a.m.Plain)
	} else {
		_, e = n.store.PutItem(a.now, a.m.Item, a.m.Old)
	}
	switch e {
	case api.OK:
	case api.ErrSign:
		panic(fault{206, "bad sign"})
	case api.ErrState:
		panic(fault{301, "not that"})
	case api.ErrOld:
		panic(fault{302, "old"})
	default:
		panic(fault{203, "bad item"})
	}
}

// respond answers a query, or tells the error message that left its answer.
func (n *Node) respond(a *asking) (out api.Query) {
	defer func() {
		if x := recover(); x != nil {
			f, ok := x.(fault)
			if !ok {
				panic(x)
			}
			out = api.Query{Kind: 3, Number: a.m.Number, Code: f.code, Text: f.text}
		}
	}()
	verbs()[a.m.Verb](n, a)
	return a.out
}

// askAll asks all that keeps a time of its own.
func (n *Node) askAll(now int) {
	_, _, _, _, e := n.table.Count(now, 4)
	refuse(e != api.OK, e)
	n.askTime(now)
	n.tell(now)
	n.last = now
}

// look looks at a text, and leaves with an error if it is not to be answered.
func (n *Node) look(text string) (number string, verb int) {
	kind, number, verb, e := query.Look(text)
	refuse(e != api.OK, api.ErrSyntax)
	refuse(kind != 1, api.ErrKind)
	refuse(n.readOnly, api.ErrRefused)
	return number, verb
}

// Answer answers a text from an address.
func (n *Node) Answer(now int, from api.Addr, text string) (string, api.Errno) {
	return attempt(func() string {
		refuse(n == nil || n.stock == nil, api.ErrInvalid)
		askAddr(from)
		refuse(now < 0 || now > api.MaxTime || now < n.last, api.ErrRange)
		number, verb := n.look(text)
		n.askAll(now)
		if verb == 0 {
			return must(query.Format(api.Query{Kind: 3, Number: number, Code: 204, Text: "bad verb"}))
		}
		m, e := query.Parse(text, verb)
		if e != api.OK {
			return must(query.Format(api.Query{Kind: 3, Number: number, Code: 203, Text: "bad query"}))
		}
		if !m.ReadOnly {
			must(n.table.Seen(now, api.Node{ID: m.ID, Addr: from}, false))
		}
		a := &asking{now: now, from: from, m: m, out: must(query.Answer(m, n.id))}
		return must(query.Format(n.respond(a)))
	})
}
