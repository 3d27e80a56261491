package place_test

import (
	"math"
	"math/rand"
	"slices"
	"testing"

	"lade/api"
	"lade/group"
	"lade/place"
	"lade/sparse"
)

func entries(t int, at ...int) []api.Entry {
	var l []api.Entry
	for _, i := range at {
		l = append(l, api.Entry{Index: i, Term: t, Data: "d"})
	}
	return l
}

func add(t int, at ...int) api.Part {
	return api.Part{Group: 1, Kind: api.KAppend, Entries: entries(t, at...)}
}

func hard(t int) api.Part { return api.Part{Group: 1, Kind: api.KHard, Hard: api.Hard{Term: t}} }

func compact(i, t int) api.Part { return api.Part{Group: 1, Kind: api.KCompact, Index: i, Term: t} }

func snap(i, t int) api.Part { return api.Part{Group: 1, Kind: api.KSnap, Index: i, Term: t} }

func again(t int, at ...int) api.Part {
	return api.Part{Group: 1, Kind: api.KForward, Entries: entries(t, at...)}
}

func mark(i, t int, l ...api.Entry) api.Part {
	return api.Part{Group: 1, Kind: api.KForward, Mark: true, Index: i, Term: t, Entries: l}
}

func head(t int) api.Part {
	return api.Part{Group: 1, Kind: api.KForward, Head: true, Hard: api.Hard{Term: t}}
}

// all: a mark, a hard state and an entry.
func all(i, t int, at int) api.Part {
	p := mark(i, t, entries(t, at)...)
	p.Head, p.Hard = true, api.Hard{Term: 9}
	return p
}

func at(n int) api.Place { return api.Place{Segment: n, At: 100 * n} }

// does parts, the k-th of them at at(k), counted from 1.
func does(parts ...api.Part) *place.Log {
	l := place.New(1)
	for k, p := range parts {
		l.Do(p, at(k+1))
	}
	return l
}

// lies lists pairs: an Index, and behind which part it lies.
func lies(pairs ...int) []api.Spot {
	var l []api.Spot
	for k := 0; k < len(pairs); k += 2 {
		l = append(l, api.Spot{Group: 1, Index: pairs[k], Place: at(pairs[k+1])})
	}
	return l
}

// P13.1, P13.2: where what a part brought lies.
func TestSpots(t *testing.T) {
	for i, c := range []struct {
		l    *place.Log
		want []api.Spot
	}{
		{place.New(1), nil},
		{does(add(1, 1)), lies(1, 1)},
		{does(add(1, 5)), lies(5, 1)},
		{does(add(1, 1, 2, 3), add(2, 3, 4), add(2, 2)), lies(1, 1, 2, 3)},
		{does(add(1, 1, 2, 3), add(1, 2, 3)), lies(1, 1, 2, 2, 3, 2)},
		{does(hard(1), hard(2)), lies(-1, 2)},
		{does(hard(0)), lies(-1, 1)},
		{does(add(1, 1, 2, 3), compact(2, 1)), lies(0, 2, 3, 1)},
		{does(add(1, 1, 2, 3), compact(2, 1), compact(2, 1), compact(1, 1)), lies(0, 2, 3, 1)},
		{does(add(1, 1, 2, 3), compact(2, 1), snap(2, 7)), lies(0, 2, 3, 1)},
		{does(add(1, 1, 2, 3), snap(2, 1)), lies(0, 2)},
		{does(add(1, 1, 2), snap(9, 1), add(1, 10)), lies(0, 2, 10, 3)},
		{does(snap(5, 1), add(2, 3, 4, 5, 6, 7)), lies(0, 1, 6, 2, 7, 2)},
		{does(snap(5, 1), add(2, 6), add(2, 3, 4)), lies(0, 1)},
		{does(hard(1), add(1, 1, 2), compact(1, 1), hard(3)), lies(-1, 4, 0, 3, 2, 2)},
		{does(add(1, 1, 2, 3), again(1, 1, 3)), lies(1, 2, 2, 1, 3, 2)},          // just so, though they were there
		{does(add(1, 1, 2, 3), again(2, 1, 3, 5)), lies(1, 1, 2, 1, 3, 1, 5, 2)}, // 1 and 3 are others
		{does(snap(2, 1), again(1, 1, 2, 3)), lies(0, 1, 3, 2)},
		{does(hard(1), head(4)), lies(-1, 2)},
		{does(head(4)), lies(-1, 1)},
		{does(mark(4, 2)), lies(0, 1)},
		{does(add(1, 1, 2, 3), all(1, 1, 3)), lies(-1, 2, 0, 2, 2, 1, 3, 2)},
		{does(snap(4, 2), mark(4, 2)), lies(0, 2)},
		{does(snap(4, 2), mark(4, 3)), lies(0, 1)},
		{does(snap(4, 2), mark(3, 2)), lies(0, 1)},
		{does(snap(4, 2), mark(6, 9, entries(1, 5, 6, 7)...)), lies(0, 2, 7, 2)},
		{does(compact(4, 0), mark(4, 2)), lies(0, 1)},
		{does(add(1, 1, 2, 3, 4), mark(2, 5)), lies(0, 2, 3, 1, 4, 1)},
		{does(add(1, 1), hard(1), api.Part{Group: 1, Kind: api.KDestroy}), lies(-1, 2, 1, 1)},
		{does(add(1, 1), api.Part{Group: 2, Kind: api.KHard}, api.Part{Group: 2, Kind: api.KAppend, Entries: entries(1, 1)}), lies(1, 1)},
		{does(add(1, 1), api.Part{}, add(1, 1, 3), add(0, 1), snap(5, 0), hard(-1), api.Part{Group: 1, Kind: api.KHard, Index: 1}), lies(1, 1)},
	} {
		if got := c.l.Spots(); !slices.Equal(got, c.want) {
			t.Errorf("P13.1: row %d: %v, not %v", i, got, c.want)
		}
	}
}

// P13.1: groups whose numbers no part has.
func TestNew(t *testing.T) {
	for _, id := range []int{0, 1, 999, 1000, -1, math.MinInt} {
		l := place.New(id)
		for _, p := range []api.Part{{Group: id, Kind: api.KHard, Hard: api.Hard{Term: 1}}, {Group: id, Kind: api.KAppend, Entries: entries(1, 1)}} {
			l.Do(p, at(1))
		}
		is := id >= 0 && id < 1000
		if g := l.Group(); g.ID != id || g.First != 1 || (len(g.Entries) == 1) != is || (len(l.Spots()) == 2) != is {
			t.Errorf("P13.1: New(%d): %+v", id, g)
		}
	}
}

// P13.2: what is found.
func TestFind(t *testing.T) {
	l := does(hard(1), add(1, 3, 4), snap(2, 1), add(1, 4, 5), add(1, 7))
	for i, want := range map[int]int{4: 4, 5: 4, 7: 5} {
		if p, ok := l.Find(i); !ok || p != at(want) {
			t.Errorf("P13.2: Find(%d): %v, %v", i, p, ok)
		}
	}
	for _, i := range []int{-1, 0, 1, 2, 3, 6, 8, math.MinInt, math.MaxInt} {
		if p, ok := l.Find(i); ok || p != (api.Place{}) {
			t.Errorf("P13.2: Find(%d): %v, %v", i, p, ok)
		}
	}
}

// P13.2: a copy goes its own way; answers are new memory.
func TestCopy(t *testing.T) {
	l := does(hard(1), add(1, 1, 2, 3))
	c := l.Copy()
	group1, spots := l.Group(), l.Spots()
	for _, p := range []api.Part{add(5, 2), compact(1, 1), hard(7), snap(9, 9)} {
		c.Do(p, at(9))
		if !group.Same(l.Group(), group1) || !slices.Equal(l.Spots(), spots) {
			t.Errorf("P13.2: the copy did %+v", p)
		}
	}
	c = l.Copy()
	l.Do(snap(9, 9), at(8))
	if !group.Same(c.Group(), group1) || !slices.Equal(c.Spots(), spots) {
		t.Error("P13.2: the copy isn't as it was")
	}
	g := c.Group()
	g.Entries[0].Data = "changed"
	_ = append(g.Entries, api.Entry{})
	c.Spots()[0].Index = 9
	handed := add(4, 4)
	c.Do(handed, at(1))
	handed.Entries[0].Data = "changed"
	if g := c.Group(); g.Entries[0].Data != "d" || g.Entries[3].Data != "d" || c.Spots()[0].Index != -1 {
		t.Errorf("P13.2: memory is shared: %+v", g)
	}
}

// P13.1, P13.3: whatever is done: the log is sparse's, and each thing lies where it was written last.
func TestAgainstModel(t *testing.T) {
	r := rand.New(rand.NewSource(1))
	for range 400 {
		l, g := place.New(1), group.New(1)
		where := map[int]api.Place{}
		for k := range 40 {
			i, term := 1+r.Intn(15), 1+r.Intn(2)
			p := []api.Part{add(term, i), add(term, i, i+1, i+2), hard(term), compact(i, r.Intn(3)), snap(i, term), again(term, i, i+2, i+3), mark(i, term), mark(i, term, entries(term, i, i+1)...), head(term), all(i, term, i+1), mark(max(g.First-1, 1), max(g.Term, 1))}[r.Intn(11)]
			l.Do(p, at(k))
			first := g.First
			g = sparse.Do(g, p)
			there := map[int]api.Entry{}
			for _, e := range g.Entries {
				there[e.Index] = e
			}
			for i := range where {
				if _, ok := there[i]; i > 0 && !ok {
					delete(where, i)
				}
			}
			for _, e := range p.Entries {
				if there[e.Index] == e {
					where[e.Index] = at(k)
				}
			}
			if p.Kind == api.KHard || p.Head {
				where[-1] = at(k)
			}
			if (p.Kind == api.KCompact || p.Kind == api.KSnap) && g.First != first || p.Mark && g.First-1 == p.Index && g.Term == p.Term {
				where[0] = at(k)
			}
			spots := l.Spots()
			ok := group.Same(l.Group(), g) && len(spots) == len(where)
			for n, s := range spots {
				ok = ok && s.Group == 1 && where[s.Index] == s.Place && (n == 0 || spots[n-1].Index < s.Index)
			}
			if !ok {
				t.Fatalf("P13.3: behind %+v: %+v, %v, not %v", p, l.Group(), spots, where)
			}
		}
	}
}
