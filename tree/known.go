package tree

import (
	"maps"

	"covey/api"
	"covey/hash"
)

// Tree knows some nodes of a tree for sure. The zeros are not among its nodes: they follow from its shape.
type Tree struct {
	shape
	root string
	at   map[place]string
}

func askTree(t *Tree) { refuse(t == nil || t.n < 1, api.ErrInvalid) }

// keep learns a node that is proved, unless it is over pads alone.
func (t *Tree) keep(at place, digest string) {
	if at.index < t.counting(at.level) {
		t.at[at] = digest
	}
}

// know returns a node that is known.
func (t *Tree) know(at place) (string, bool) {
	if at.index >= t.counting(at.level) {
		return zero(at.level), true
	}
	d, ok := t.at[at]
	return d, ok
}

func (t *Tree) get(at place) string {
	d, ok := t.know(at)
	refuse(!ok, api.ErrNone)
	return d
}

// New returns a tree that knows a root.
func New(root string, n int) (*Tree, api.Errno) {
	return attempt(func() *Tree {
		askDigests([]string{root})
		askCount(n)
		t := &Tree{shape: shapeOf(n), root: root, at: map[place]string{}}
		t.keep(place{t.height, 0}, root)
		return t
	})
}

// Of returns a tree that knows all.
func Of(leaves []string) (*Tree, api.Errno) {
	return attempt(func() *Tree {
		f := askLeaves(leaves)
		t := &Tree{shape: f, at: map[place]string{}}
		for level, l := range f.levels(0, leaves) {
			for i, d := range l {
				t.keep(place{level, i}, d)
			}
		}
		t.root = t.get(place{f.height, 0})
		return t
	})
}

// Root returns the tree's root.
func (t *Tree) Root() string {
	if t == nil {
		return ""
	}
	return t.root
}

// Leaves returns how many leaves there are.
func (t *Tree) Leaves() int {
	if t == nil {
		return 0
	}
	return t.n
}

// Add takes a run with its uncles, if they make the root.
func (t *Tree) Add(level, index int, nodes, uncles []string) api.Errno {
	_, e := attempt(func() bool {
		askTree(t)
		t.askProof(level, index, nodes, uncles)
		met := map[place]string{}
		root := climb(place{level, index}, nodes, uncles, func(at place, d string) { met[at] = d })
		refuse(root != t.root, api.ErrProof)
		for at, d := range met {
			t.keep(at, d)
		}
		return true
	})
	return e
}

// Get returns a node that is known.
func (t *Tree) Get(level, index int) (string, api.Errno) {
	return attempt(func() string {
		askTree(t)
		t.askNode(level, index)
		return t.get(place{level, index})
	})
}

// Known returns how many of the nodes that count of a level are known.
func (t *Tree) Known(level int) (int, api.Errno) {
	missing, e := t.Missing(level)
	if e != api.OK {
		return 0, e
	}
	return t.counting(level) - len(missing), api.OK
}

// Missing returns the indexes of the nodes that count of a level and are not known.
func (t *Tree) Missing(level int) ([]int, api.Errno) {
	return attempt(func() []int {
		askTree(t)
		t.askLevel(level)
		var l []int
		for i := range t.counting(level) {
			if _, ok := t.at[place{level, i}]; !ok {
				l = append(l, i)
			}
		}
		return l
	})
}

// Give returns a run of known nodes and the first uncles.
func (t *Tree) Give(level, index, count, uncles int) (nodes, first []string, e api.Errno) {
	p, e := attempt(func() proof {
		askTree(t)
		k := t.askRun(level, index, count)
		refuse(uncles < 0 || uncles > t.height-level-k, api.ErrRange)
		var p proof
		for i := range count {
			p.nodes = append(p.nodes, t.get(place{level, index + i}))
		}
		for i := range uncles {
			p.uncles = append(p.uncles, t.get(place{level + k + i, index>>(k+i) ^ 1}))
		}
		return p
	})
	return p.nodes, p.uncles, e
}

// Block checks a block of data against a leaf.
func (t *Tree) Block(index int, data string) api.Errno {
	_, e := attempt(func() bool {
		askTree(t)
		t.askNode(0, index)
		leaf := t.get(place{0, index})
		refuse(index >= t.n, api.ErrRange)
		refuse(data == "" || len(data) > api.Block, api.ErrSize)
		refuse(hash.Sum(data) != leaf, api.ErrProof)
		return true
	})
	return e
}

// Copy returns a tree of its own.
func (t *Tree) Copy() *Tree {
	if t == nil {
		return nil
	}
	c := *t
	c.at = maps.Clone(t.at)
	return &c
}
