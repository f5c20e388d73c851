package tree

import (
	"math"
	"slices"
	"strconv"
	"strings"
	"testing"

	"covey/api"
	"covey/hash"
)

func leaves(n int) []string {
	var l []string
	for i := range n {
		l = append(l, hash.Sum(strconv.Itoa(i)))
	}
	return l
}

// all are the nodes of all levels, pads too, made as the chapter tells it.
func all(l []string) [][]string {
	for len(l)&(len(l)-1) != 0 {
		l = append(l, hash.Zero())
	}
	out := [][]string{l}
	for len(l) > 1 {
		var up []string
		for i := 0; i < len(l); i += 2 {
			up = append(up, hash.Pair(l[i], l[i+1]))
		}
		l = up
		out = append(out, l)
	}
	return out
}

// runs calls f with each run of a tree.
func runs(levels [][]string, f func(level, index, count int)) {
	for level, l := range levels {
		for count := 1; count <= len(l); count *= 2 {
			for index := 0; index < len(l); index += count {
				f(level, index, count)
			}
		}
	}
}

func TestP41Errors(t *testing.T) {
	var none *Tree
	if none.Root() != "" || none.Leaves() != 0 || none.Copy() != nil {
		t.Error("nil")
	}
	if none.Add(0, 0, nil, nil) != api.ErrInvalid || none.Block(0, "") != api.ErrInvalid {
		t.Error("nil")
	}
	if _, e := none.Get(0, 0); e != api.ErrInvalid {
		t.Error("nil", e)
	}
	if _, e := none.Known(0); e != api.ErrInvalid {
		t.Error("nil", e)
	}
	if _, _, e := none.Give(0, 0, 1, 0); e != api.ErrInvalid {
		t.Error("nil", e)
	}
	if _, e := Leaves(""); e != api.ErrSize {
		t.Error("Leaves", e)
	}
	if _, e := Leaves(strings.Repeat("x", 65537)); e != api.ErrLimit {
		t.Error("Leaves", e)
	}
	if l, e := Leaves(strings.Repeat("x", 65536)); len(l) != 4096 || e != api.OK {
		t.Error("Leaves", e)
	}
	if l, _ := Leaves(strings.Repeat("x", 20)); !slices.Equal(l, []string{hash.Sum(strings.Repeat("x", 16)), hash.Sum("xxxx")}) {
		t.Error("Leaves")
	}
	for _, n := range []int{math.MinInt, -1, 0, 4097, math.MaxInt} {
		if _, e := Height(n); e != api.ErrRange {
			t.Error("Height", e)
		}
		if _, e := New(hash.Zero(), n); e != api.ErrRange {
			t.Error("New", e)
		}
		if _, e := FromLayer(n, 0, nil); e != api.ErrRange {
			t.Error("FromLayer", e)
		}
	}
	for _, level := range []int{-1, 13, math.MaxInt, math.MinInt} {
		if _, e := Zero(level); e != api.ErrRange {
			t.Error("Zero", e)
		}
		if _, e := Layer(leaves(3), level); e != api.ErrRange {
			t.Error("Layer", e)
		}
	}
	for n, h := range map[int]int{1: 0, 2: 1, 3: 2, 4: 2, 5: 3, 4096: 12} {
		if x, e := Height(n); x != h || e != api.OK {
			t.Error("Height", n, x)
		}
	}
	if _, e := Root(nil); e != api.ErrInvalid {
		t.Error("Root", e)
	}
	if _, e := Root([]string{"x"}); e != api.ErrInvalid {
		t.Error("Root", e)
	}
	if _, e := Root(leaves(4097)); e != api.ErrLimit {
		t.Error("Root", e)
	}
	if _, e := FromLayer(3, 1, leaves(1)); e != api.ErrSize {
		t.Error("FromLayer", e)
	}
	if _, e := New("x", 0); e != api.ErrInvalid {
		t.Error("New", e)
	}
	l := leaves(5)
	for _, c := range [][3]int{{-1, 0, 1}, {4, 0, 1}, {0, 8, 1}, {0, -1, 1}, {0, 1, 2}, {0, 0, 3}, {0, 0, 0}, {0, 0, 16}, {1, 2, 4}, {0, math.MaxInt, 1}} {
		if _, _, e := Run(l, c[0], c[1], c[2]); e != api.ErrRange {
			t.Error("Run", c, e)
		}
	}
	if _, e := Uncles(l, 3, 1); e != api.ErrRange {
		t.Error("Uncles", e)
	}
}

func TestP42Roads(t *testing.T) {
	a := leaves(3)
	root, _ := Root(a)
	if root != hash.Pair(hash.Pair(a[0], a[1]), hash.Pair(a[2], hash.Zero())) {
		t.Error("Root")
	}
	if u, _ := Uncles(a, 0, 2); !slices.Equal(u, []string{hash.Zero(), hash.Pair(a[0], a[1])}) {
		t.Error("Uncles")
	}
	for _, n := range []int{1, 2, 3, 4, 5, 8, 11, 16, 17} {
		l := leaves(n)
		levels := all(l)
		root, _ := Root(l)
		if root != levels[len(levels)-1][0] {
			t.Error("Root", n)
		}
		for level := range levels {
			count := (n + 1<<level - 1) >> level
			layer, _ := Layer(l, level)
			if !slices.Equal(layer, levels[level][:count]) {
				t.Error("Layer", n, level)
			}
			if x, e := FromLayer(n, level, layer); x != root || e != api.OK {
				t.Error("FromLayer", n, level, e)
			}
		}
		runs(levels, func(level, index, count int) {
			nodes, uncles, e := Run(l, level, index, count)
			if e != api.OK || !slices.Equal(nodes, levels[level][index:index+count]) {
				t.Error("Run", n, level, index, count, e)
			}
			at, i := level, index
			for c := count; c > 1; c /= 2 {
				at, i = at+1, i/2
			}
			same, _ := Uncles(l, at, i)
			if !slices.Equal(same, uncles) || len(uncles) != len(levels)-1-at {
				t.Error("Uncles", n, level, index, count)
			}
			for k, u := range uncles {
				if u != levels[at+k][i>>k^1] {
					t.Error("uncle", n, level, index, count)
				}
			}
			if !Check(root, n, level, index, nodes, uncles) {
				t.Error("Check", n, level, index, count)
			}
		})
	}
}

func change(l []string, at, k int) []string {
	c := slices.Clone(l)
	b := []byte(c[at])
	b[k] ^= 1
	c[at] = string(b)
	return c
}

func TestP43Proved(t *testing.T) {
	l := leaves(11)
	root, _ := Root(l)
	runs(all(l), func(level, index, count int) {
		nodes, uncles, _ := Run(l, level, index, count)
		for i := range nodes {
			if Check(root, 11, level, index, change(nodes, i, 7), uncles) {
				t.Error("a changed node", level, index, count)
			}
		}
		for i := range uncles {
			if Check(root, 11, level, index, nodes, change(uncles, i, 31)) {
				t.Error("a changed uncle", level, index, count)
			}
		}
		if Check(root, 11, level, index, nodes[1:], uncles) || Check(root, 11, level, index, nodes, append(uncles, root)) {
			t.Error("numbers", level, index, count)
		}
		if Check(root[1:], 11, level, index, nodes, uncles) || Check(root, 0, level, index, nodes, uncles) || Check(root, 11, level-20, index, nodes, uncles) {
			t.Error("what is not valid", level, index, count)
		}
	})
}

func TestP44Known(t *testing.T) {
	l := leaves(11)
	levels := all(l)
	root, _ := Root(l)
	runs(levels, func(level, index, count int) {
		x, _ := New(root, 11)
		nodes, uncles, _ := Run(l, level, index, count)
		before := x.Copy()
		if e := x.Add(level, index, change(nodes, 0, 0), uncles); e != api.ErrProof || len(x.at) != len(before.at) {
			t.Error("a refused Add", e)
		}
		if e := x.Add(level, index, nodes, append([]string{root}, uncles...)); e != api.ErrSize {
			t.Error("Add", e)
		}
		if e := x.Add(level, index, nodes, uncles); e != api.OK {
			t.Error("Add", e)
		}
		// What must be known: the run, all between, the uncles and the way.
		must := map[place]bool{}
		from, n, at := index, count, level
		for n > 1 {
			for i := range n {
				must[place{at, from + i}] = true
			}
			from, n, at = from/2, n/2, at+1
		}
		for at < len(levels) {
			must[place{at, from}] = true
			if at < len(levels)-1 {
				must[place{at, from ^ 1}] = true
			}
			from, at = from/2, at+1
		}
		for level, nodes := range levels {
			known := 0
			missing, _ := x.Missing(level)
			for i, d := range nodes {
				pad := i<<level >= 11
				got, e := x.Get(level, i)
				if (must[place{level, i}] || pad) != (e == api.OK) || e == api.OK && got != d || e != api.OK && (e != api.ErrNone || got != "") {
					t.Error("Get", level, i, e)
				}
				if !pad && e == api.OK {
					known++
				}
				if slices.Contains(missing, i) != (e != api.OK) {
					t.Error("Missing", level, i)
				}
			}
			if k, e := x.Known(level); k != known || e != api.OK {
				t.Error("Known", level, k, known)
			}
		}
		got, proof, e := x.Give(level, index, count, len(uncles))
		if !slices.Equal(got, nodes) || !slices.Equal(proof, uncles) || e != api.OK {
			t.Error("Give", e)
		}
		if _, _, e := x.Give(level, index, count, len(uncles)+1); e != api.ErrRange {
			t.Error("Give", e)
		}
		if _, _, e := x.Give(level, index, count, -1); e != api.ErrRange {
			t.Error("Give", e)
		}
		if len(before.at) != 1 {
			t.Error("a copy is one of its own")
		}
	})
	x, _ := New(root, 11)
	if _, _, e := x.Give(0, 0, 1, 0); e != api.ErrNone {
		t.Error("Give", e)
	}
	if e := x.Add(0, 0, nil, nil); e != api.ErrRange {
		t.Error("Add", e)
	}
	if e := x.Add(9, 0, []string{"x"}, nil); e != api.ErrInvalid {
		t.Error("Add", e)
	}
	// A root that no pads make: what it tells about pads is not kept.
	odd := hash.Pair(hash.Pair(l[0], l[1]), hash.Pair(l[2], l[3]))
	y, _ := New(odd, 3)
	if e := y.Add(0, 0, l[:4], nil); e != api.OK {
		t.Error("Add", e)
	}
	if d, e := y.Get(0, 3); d != hash.Zero() || e != api.OK {
		t.Error("a pad is a zero", e)
	}
	if d, e := y.Get(1, 1); d != hash.Pair(l[2], l[3]) || e != api.OK {
		t.Error("Get", e)
	}
}

func TestP45Whole(t *testing.T) {
	l := leaves(11)
	root, _ := Root(l)
	for level := range 5 {
		x, _ := New(root, 11)
		for i := range (11 + 1<<level - 1) >> level {
			nodes, uncles, _ := Run(l, level, i, 1)
			x.Add(level, i, nodes, uncles)
		}
		for at := level; at < 5; at++ {
			if m, e := x.Missing(at); len(m) != 0 || e != api.OK {
				t.Error("Missing", level, at, m)
			}
		}
	}
	data := strings.Repeat("0123456789abcdefg", 10)
	own, _ := Leaves(data)
	x, _ := Of(own)
	if x.Leaves() != 11 || x.Root() == root {
		t.Error("Of")
	}
	for i := range 11 {
		block := data[16*i : min(len(data), 16*i+16)]
		if e := x.Block(i, block); e != api.OK {
			t.Error("Block", i, e)
		}
		if e := x.Block(i, "X"+block[1:]); e != api.ErrProof {
			t.Error("Block", i, e)
		}
	}
	for i, want := range map[int]api.Errno{-1: api.ErrRange, 11: api.ErrRange, 15: api.ErrRange, 16: api.ErrRange, 3: api.ErrSize} {
		if e := x.Block(i, ""); e != want {
			t.Error("Block", i, e)
		}
	}
	if e := x.Block(0, strings.Repeat("x", 17)); e != api.ErrSize {
		t.Error("Block", e)
	}
	y, _ := New(x.Root(), 11)
	if e := y.Block(0, ""); e != api.ErrNone {
		t.Error("Block", e)
	}
}
