package bits

import (
	"math"
	"slices"
	"strings"
	"testing"

	"covey/api"
)

// fields are fields of several sizes, each with a pattern of its own.
func fields() map[int][]string {
	m := map[int][]string{}
	for _, n := range []int{0, 1, 7, 8, 9, 10, 16, 17, 100, api.MaxBits} {
		for k := range 6 {
			var l []int
			for i := range n {
				if k > 0 && (i*i+i/3)%(k+1) == 0 {
					l = append(l, i)
				}
			}
			s, e := Of(n, l)
			if e != api.OK {
				panic("Of")
			}
			m[n] = append(m[n], s)
		}
		f, _ := Full(n)
		m[n] = append(m[n], f)
	}
	return m
}

func TestP11EndsWithErrors(t *testing.T) {
	for _, n := range []int{math.MinInt, -1, api.MaxBits + 1, math.MaxInt} {
		if _, e := New(n); e != api.ErrRange {
			t.Error("New", n, e)
		}
		if _, e := Full(n); e != api.ErrRange {
			t.Error("Full", n, e)
		}
		if _, e := Parse(n, strings.Repeat("x", api.MaxText+1)); e != api.ErrRange {
			t.Error("Parse", n, e)
		}
		if _, e := FromRuns(n, nil); e != api.ErrRange {
			t.Error("FromRuns", n, e)
		}
		if s, e := Or(n, "", ""); s != "" || e != api.ErrRange {
			t.Error("Or", n, e)
		}
	}
	if _, e := Parse(4, strings.Repeat("x", api.MaxText+1)); e != api.ErrLong {
		t.Error("Parse", e)
	}
	if _, e := Has(4, "\x01", 9); e != api.ErrInvalid {
		t.Error("Has", e)
	}
	if _, e := And(4, "\xf0", "\x01"); e != api.ErrInvalid {
		t.Error("And", e)
	}
	for _, i := range []int{math.MinInt, -1, 4, math.MaxInt} {
		if _, e := Set(4, "\xf0", i, true); e != api.ErrRange {
			t.Error("Set", i, e)
		}
	}
	if _, e := Next(4, "\xf0", 5); e != api.ErrRange {
		t.Error("Next", e)
	}
	if _, e := Next(4, "\xf0", 4); e != api.ErrNone {
		t.Error("Next", e)
	}
	if _, e := Rank(4, "\xf0", 5); e != api.ErrRange {
		t.Error("Rank", e)
	}
	if _, e := Select(4, "\xf0", -1); e != api.ErrRange {
		t.Error("Select", e)
	}
	if _, e := Select(4, "\xf0", 4); e != api.ErrNone {
		t.Error("Select", e)
	}
	if _, e := Of(4, []int{4, 1, 1}); e != api.ErrRange {
		t.Error("Of", e)
	}
	if _, e := Of(4, []int{1, 1, 4}); e != api.ErrDuplicate {
		t.Error("Of", e)
	}
	for _, r := range [][]api.Run{{{From: 0, Count: 0}}, {{From: -1, Count: 1}}, {{From: 1, Count: math.MaxInt}}, {{From: math.MaxInt, Count: math.MaxInt}}, {{From: 4, Count: 1}}} {
		if _, e := FromRuns(4, r); e != api.ErrRange {
			t.Error("FromRuns", r, e)
		}
	}
	if _, e := FromRuns(4, []api.Run{{From: 1, Count: 2}, {From: 2, Count: 1}}); e != api.ErrDuplicate {
		t.Error("FromRuns", e)
	}
}

func TestP12Sets(t *testing.T) {
	for n, l := range fields() {
		for _, a := range l {
			la, _ := List(n, a)
			if x, _ := Of(n, la); x != a {
				t.Error("Of List", n)
			}
			ra, _ := Runs(n, a)
			if x, _ := FromRuns(n, ra); x != a {
				t.Error("FromRuns Runs", n)
			}
			for k := 1; k < len(ra); k++ {
				if ra[k-1].From+ra[k-1].Count >= ra[k].From {
					t.Error("Runs touch", n)
				}
			}
			for _, b := range l {
				and, _ := And(n, a, b)
				or, _ := Or(n, a, b)
				less, _ := Without(n, a, b)
				not, _ := Not(n, a)
				for i := range n {
					x, y := isSet(a, i), isSet(b, i)
					if isSet(and, i) != (x && y) || isSet(or, i) != (x || y) || isSet(less, i) != (x && !y) || isSet(not, i) == x {
						t.Fatal("sets", n, i)
					}
				}
			}
		}
	}
}

func TestP13Ranks(t *testing.T) {
	for n, l := range fields() {
		for _, s := range l {
			count, _ := Count(n, s)
			if r, _ := Rank(n, s, n); r != count {
				t.Error("Rank", n)
			}
			all, _ := List(n, s)
			if len(all) != count || !slices.IsSorted(all) {
				t.Error("List", n)
			}
			for _, i := range all[:min(len(all), 50)] {
				r, _ := Rank(n, s, i)
				if x, e := Select(n, s, r); x != i || e != api.OK {
					t.Error("Select", n, i, x)
				}
				if x, e := Next(n, s, i); x != i || e != api.OK {
					t.Error("Next", n, i, x)
				}
			}
		}
	}
}

func TestP14Back(t *testing.T) {
	for n, l := range fields() {
		texts := map[string]string{}
		for _, s := range l {
			x, e := Text(n, s)
			if old, ok := texts[x]; ok && old != s {
				t.Error("one text of two fields", n)
			}
			texts[x] = s
			if y, f := Parse(n, x); y != s || e != api.OK || f != api.OK {
				t.Error("Parse", n, x)
			}
		}
	}
	for _, s := range []string{"1,0", "0,1", "0-1,2", "2-2", "3-1", "00", "0,", ",0", "-", "0-", "-0", "0--1", "10", "0-10", "+1", " 1", "0-1-2", "99999999999999999999"} {
		if x, e := Parse(10, s); x != "" || e != api.ErrSyntax {
			t.Error(s, e)
		}
	}
	if s, e := Parse(0, ""); s != "" || e != api.OK {
		t.Error("empty")
	}
}

func TestP15Spare(t *testing.T) {
	for n, l := range fields() {
		for _, s := range l {
			not, _ := Not(n, s)
			or, _ := Or(n, s, not)
			full, _ := Full(n)
			if !Valid(n, not) || !Valid(n, s) || or != full {
				t.Error("spare bits", n)
			}
			if n > 0 {
				x, e := Set(n, s, n-1, true)
				if !Valid(n, x) || e != api.OK || !isSet(x, n-1) {
					t.Error("Set", n)
				}
				x, _ = Set(n, x, n-1, false)
				if isSet(x, n-1) {
					t.Error("Set", n)
				}
			}
		}
	}
	if at, e := Wrong(4, "\x08"); at != 4 || e != api.ErrData {
		t.Error("Wrong", at, e)
	}
	if at, e := Wrong(4, ""); at != 0 || e != api.ErrSize {
		t.Error("Wrong", at, e)
	}
	if at, e := Wrong(4, "ab"); at != 1 || e != api.ErrSize {
		t.Error("Wrong", at, e)
	}
}
