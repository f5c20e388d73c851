package trade

import (
	"cmp"
	"slices"
	"strconv"
	"strings"

	"covey/api"
	"covey/choke"
	"covey/hash"
)

// The strategies.
const (
	fairly = iota + 1
	freely
	openly
	grimly
	bestly
	tyrannic
	mirrored
)

const (
	slots     = 4
	titForTat = 1
	patience  = 3
)

// gift is what a player gives to another one.
type gift struct{ to, bytes int }

// strategy is how a player gives.
type strategy interface {
	// gives returns to whom the player number n gives in the next round, and how much.
	gives(g *Game, n int) []gift
}

func strategyOf(n int) strategy {
	switch n {
	case fairly:
		return fair{}
	case openly:
		return open{}
	case grimly:
		return grim{}
	case bestly:
		return best{}
	case tyrannic:
		return tyrant{}
	case mirrored:
		return mirror{}
	}
	return free{}
}

type (
	fair   struct{}
	free   struct{}
	open   struct{}
	grim   struct{}
	best   struct{}
	tyrant struct{}
	mirror struct{}
)

// evenly cuts what a player can give evenly.
func (g *Game) evenly(n int, to []int) []gift {
	var out []gift
	for _, k := range to {
		out = append(out, gift{k, g.players[n].Rate / len(to)})
	}
	return out
}

// others are all players but one.
func (g *Game) others(n int) []int {
	var out []int
	for k := range g.players {
		if k != n {
			out = append(out, k)
		}
	}
	return out
}

// came is what came to n from k in the last round but so many.
func (g *Game) came(n, k, back int) int { return g.last(back)[k][n] }

// snubbed reports whether nothing came of late from one to whom n gave in each round.
func (g *Game) snubbed(n, k int) bool {
	if len(g.recent) < patience {
		return false
	}
	for back := range patience {
		if g.came(n, k, back) > 0 || g.came(k, n, back) == 0 {
			return false
		}
	}
	return true
}

// rivals are the other players as a fair one sees them.
func (g *Game) rivals(n int) []api.Rival {
	var out []api.Rival
	for _, k := range g.others(n) {
		r := api.Rival{ID: k, Interested: true, From: g.came(n, k, 0), To: g.came(k, n, 0), Snubbed: g.snubbed(n, k)}
		r.Chokes = r.From == 0
		if g.all[n][k] == 0 {
			r.Let = -1
		}
		out = append(out, r)
	}
	return out
}

func (fair) gives(g *Game, n int) []gift {
	seed := g.seed + " " + strconv.Itoa(n)
	l := g.rivals(n)
	let, e := choke.Round(titForTat, g.rounds, slots, seed, l)
	if e != api.OK {
		// A seed that is too long for layer 31 is drawn with all the same.
		let = longRound(g.rounds, seed, l)
	}
	return g.evenly(n, let)
}

// longRound decides a round as layer 31's way 1 does, with a seed of any length.
func longRound(round int, seed string, l []api.Rival) []int {
	chokes := map[bool]int{true: 1}
	l = slices.Clone(l)
	slices.SortFunc(l, func(a, b api.Rival) int {
		return cmp.Or(cmp.Compare(b.From, a.From), cmp.Compare(chokes[a.Chokes], chokes[b.Chokes]), cmp.Compare(a.Since, b.Since), cmp.Compare(a.ID, b.ID))
	})
	var let, others []int
	for _, r := range l {
		if !r.Snubbed && len(let) < slots-1 {
			let = append(let, r.ID)
		} else {
			others = append(others, r.ID)
		}
	}
	before := seed + ":" + strconv.Itoa(round/3) + ":"
	draw := func(id int) string {
		s := before + strconv.Itoa(id)
		if round < 3 {
			return min(hash.Old(s), hash.Old(s+"a"), hash.Old(s+"b"))
		}
		return hash.Old(s)
	}
	slices.SortFunc(others, func(a, b int) int { return strings.Compare(draw(a), draw(b)) })
	let = append(let, others[:min(slots-len(let), len(others))]...)
	slices.Sort(let)
	return let
}

func (free) gives(*Game, int) []gift { return nil }

func (open) gives(g *Game, n int) []gift { return g.evenly(n, g.others(n)) }

func (grim) gives(g *Game, n int) []gift {
	var to []int
	for _, k := range g.others(n) {
		if g.loyal[k][n] {
			to = append(to, k)
		}
	}
	return g.evenly(n, to)
}

func (best) gives(g *Game, n int) []gift {
	to, most := (n+1)%len(g.players), 0
	for _, k := range g.others(n) {
		if c := g.came(n, k, 0); c > most {
			to, most = k, c
		}
	}
	return g.evenly(n, []int{to})
}

func (mirror) gives(g *Game, n int) []gift {
	if g.rounds == 0 {
		return open{}.gives(g, n)
	}
	left := g.players[n].Rate
	var out []gift
	for _, k := range g.others(n) {
		bytes := min(left, g.came(n, k, 0))
		out = append(out, gift{k, bytes})
		left -= bytes
	}
	return out
}

// worth is the order of others by what came from them, divided by what a tyrant thinks it must give.
func (g *Game) worth(n int) func(a, b int) int {
	quotient := func(k int) (came, price int) {
		came = g.came(n, k, 0)
		if came == 0 {
			return 0, 1
		}
		return came, g.minds[n][k].price
	}
	return func(a, b int) int {
		x, p := quotient(a)
		y, q := quotient(b)
		return cmp.Or(cmp.Compare(y*p, x*q), cmp.Compare(a, b))
	}
}

func (tyrant) gives(g *Game, n int) []gift {
	l := g.others(n)
	if g.rounds > 0 {
		slices.SortFunc(l, g.worth(n))
	}
	left := g.players[n].Rate
	var out []gift
	for _, k := range l {
		price := g.minds[n][k].price
		if price > left {
			break
		}
		out = append(out, gift{k, price})
		left -= price
	}
	return out
}

// learn lets a tyrant think anew of those to whom it gave.
func (g *Game) learn(n int, chosen []int) {
	mind := g.minds[n]
	for _, k := range g.others(n) {
		x := mind[k]
		back := g.came(n, k, 0) > 0
		switch {
		case !slices.Contains(chosen, k):
			x.streak = 0
		case back:
			x.streak++
			if x.streak >= patience {
				x.price -= x.price / 10
			}
		default:
			x.streak = 0
			x.price = min(g.players[n].Rate, x.price+max(1, x.price/5))
		}
		mind[k] = x
	}
}
