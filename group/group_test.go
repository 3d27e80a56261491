package group_test

import (
	"math"
	"math/rand"
	"strings"
	"testing"

	"lade/api"
	"lade/group"
)

const tera = 1 << 40

func entry(i, t int) api.Entry { return api.Entry{Index: i, Term: t, Data: "d"} }

func run(from, n, t int) []api.Entry {
	var l []api.Entry
	for i := range n {
		l = append(l, entry(from+i, t))
	}
	return l
}

func add(from, n, t int) api.Part {
	return api.Part{Group: 1, Kind: api.KAppend, Entries: run(from, n, t)}
}

func compact(i, t int) api.Part { return api.Part{Group: 1, Kind: api.KCompact, Index: i, Term: t} }

func snap(i, t int) api.Part { return api.Part{Group: 1, Kind: api.KSnap, Index: i, Term: t} }

// five: 3 (term 2) is gone; entries 4, 5 of term 2, 6 to 8 of term 3.
func five() api.Group {
	return api.Group{ID: 1, First: 4, Term: 2, Hard: api.Hard{Term: 3, Vote: 1, Commit: 5}, Entries: append(run(4, 2, 2), run(6, 3, 3)...)}
}

// P6.1: a new one, and where one ends.
func TestNew(t *testing.T) {
	for _, id := range []int{0, 1, 999, 1000, -1} {
		g := group.New(id)
		if !group.Same(g, api.Group{ID: id, First: 1}) || group.Last(g) != 0 || group.Is(g) != (id >= 0 && id <= 999) {
			t.Errorf("P6.1: New(%d): %+v", id, g)
		}
	}
	if group.Last(five()) != 8 || group.Last(api.Group{First: 7}) != 6 {
		t.Error("P6.1: Last")
	}
}

// P6.1: what is well-formed.
func TestIs(t *testing.T) {
	long := api.Entry{Index: 1, Term: 1, Data: strings.Repeat("x", 41)}
	for i, g := range []api.Group{five(), {First: 1}, {ID: 999, First: tera + 1, Term: tera}, {First: tera, Entries: run(tera, 1, tera)}, {First: 1, Term: 5}, {First: 1, Hard: api.Hard{Term: tera, Vote: 1000, Commit: tera}}} {
		if !group.Is(g) {
			t.Errorf("P6.1: good group %d", i)
		}
	}
	for i, g := range []api.Group{
		{}, {First: -1}, {First: tera + 2}, {First: math.MinInt}, {ID: -1, First: 1}, {ID: 1000, First: 1},
		{First: 1, Term: -1}, {First: 1, Term: tera + 1},
		{First: 1, Hard: api.Hard{Term: -1}}, {First: 1, Hard: api.Hard{Vote: 1001}}, {First: 1, Hard: api.Hard{Commit: tera + 1}},
		{First: 1, Entries: run(2, 1, 1)}, {First: 2, Entries: run(1, 2, 1)}, {First: 1, Entries: []api.Entry{entry(1, 1), entry(3, 1)}},
		{First: 1, Entries: []api.Entry{entry(1, 1), entry(1, 1)}}, {First: 1, Entries: []api.Entry{entry(1, 0)}}, {First: 1, Entries: []api.Entry{long}},
		{First: tera, Entries: run(tera, 2, 1)},
	} {
		if group.Is(g) {
			t.Errorf("P6.1: bad group %d", i)
		}
	}
}

// P6.1: alike in all parts.
func TestSame(t *testing.T) {
	same := five()
	same.Entries = append([]api.Entry{}, same.Entries...)
	if !group.Same(five(), same) || !group.Same(api.Group{}, api.Group{Entries: []api.Entry{}}) {
		t.Error("P6.1: alike")
	}
	for i, change := range []func(*api.Group){
		func(g *api.Group) { g.ID++ }, func(g *api.Group) { g.First++ }, func(g *api.Group) { g.Term++ },
		func(g *api.Group) { g.Hard.Term++ }, func(g *api.Group) { g.Hard.Vote++ }, func(g *api.Group) { g.Hard.Commit++ },
		func(g *api.Group) { g.Entries = g.Entries[1:] }, func(g *api.Group) { g.Entries = g.Entries[:4] },
		func(g *api.Group) { g.Entries[4].Term++ }, func(g *api.Group) { g.Entries[0].Data = "" }, func(g *api.Group) { g.Entries[2].Index++ },
	} {
		g := five()
		change(&g)
		if group.Same(g, five()) || group.Same(five(), g) {
			t.Errorf("P6.1: change %d isn't seen", i)
		}
	}
}

// P6.2: what can't be done, each thing at its edges.
func TestCheck(t *testing.T) {
	other := add(9, 1, 3)
	other.Group = 2
	for i, c := range []struct {
		p api.Part
		e api.Errno
	}{
		{add(3, 1, 3), api.ErrGone}, {add(3, 6, 3), api.ErrGone}, {add(4, 1, 3), 0}, {add(8, 2, 3), 0}, {add(9, 1, 3), 0}, {add(10, 1, 3), api.ErrGap}, {add(tera, 1, 1), api.ErrGap},
		{add(1, 1, 1), api.ErrGone}, {other, api.ErrForm}, {api.Part{Group: 1, Kind: api.KAppend}, api.ErrForm},
		{api.Part{Group: 1, Kind: api.KHard}, 0}, {api.Part{Group: 1, Kind: api.KHard, Hard: api.Hard{Vote: -1}}, api.ErrForm},
		{compact(3, 0), api.ErrGone}, {compact(3, 2), api.ErrGone}, {compact(4, 0), 0}, {compact(4, 2), 0}, {compact(4, 3), api.ErrForm}, {compact(8, 3), 0}, {compact(8, 0), 0}, {compact(8, 2), api.ErrForm}, {compact(9, 0), api.ErrIndex}, {compact(9, 3), api.ErrIndex}, {compact(0, 0), api.ErrForm},
		{snap(3, 2), api.ErrGone}, {snap(4, 2), 0}, {snap(4, 9), 0}, {snap(100, 1), 0}, {snap(tera, tera), 0}, {snap(4, 0), api.ErrForm},
		{api.Part{Group: 1, Kind: api.KDestroy}, api.ErrForm}, {api.Part{Group: 1, Kind: api.KForward, Entries: run(4, 1, 1)}, api.ErrForm}, {api.Part{}, api.ErrForm}, {api.Part{Group: 1, Kind: 9}, api.ErrForm},
	} {
		g := five()
		if e := group.Check(g, c.p); e != c.e {
			t.Errorf("P6.2: row %d: %v, not %v", i, e, c.e)
		}
		got, e := group.Do(g, c.p)
		if e != c.e || !group.Same(g, five()) || e != 0 && !group.Same(got, g) || e == 0 && !group.Is(got) {
			t.Errorf("P6.3: row %d: %+v, %v", i, got, e)
		}
		for k := range got.Entries {
			got.Entries[k].Data = "changed"
		}
		_ = append(got.Entries, entry(1, 1))
		if !group.Same(g, five()) {
			t.Errorf("P6.3: row %d: what was handed in is changed", i)
		}
	}
	if e := group.Check(group.New(1), add(2, 1, 1)); e != api.ErrGap {
		t.Errorf("P6.2: an entry of Index 2 behind none: %v", e)
	}
	if e := group.Check(group.New(1), compact(1, 0)); e != api.ErrIndex {
		t.Errorf("P6.2: compact of none: %v", e)
	}
}

// P6.3: what is done.
func TestDo(t *testing.T) {
	hard := five().Hard
	for i, c := range []struct {
		p    api.Part
		want api.Group
	}{
		{add(9, 2, 4), api.Group{ID: 1, First: 4, Term: 2, Hard: hard, Entries: append(five().Entries, run(9, 2, 4)...)}},
		{add(5, 1, 4), api.Group{ID: 1, First: 4, Term: 2, Hard: hard, Entries: append(run(4, 1, 2), run(5, 1, 4)...)}},
		{add(4, 6, 4), api.Group{ID: 1, First: 4, Term: 2, Hard: hard, Entries: run(4, 6, 4)}},
		{api.Part{Group: 1, Kind: api.KHard, Hard: api.Hard{Commit: 1}}, api.Group{ID: 1, First: 4, Term: 2, Hard: api.Hard{Commit: 1}, Entries: five().Entries}},
		{compact(5, 0), api.Group{ID: 1, First: 6, Term: 2, Hard: hard, Entries: run(6, 3, 3)}},
		{compact(6, 3), api.Group{ID: 1, First: 7, Term: 3, Hard: hard, Entries: run(7, 2, 3)}},
		{compact(8, 0), api.Group{ID: 1, First: 9, Term: 3, Hard: hard}},
		{snap(6, 3), api.Group{ID: 1, First: 7, Term: 3, Hard: hard, Entries: run(7, 2, 3)}},
		{snap(8, 3), api.Group{ID: 1, First: 9, Term: 3, Hard: hard}},
		{snap(6, 4), api.Group{ID: 1, First: 7, Term: 4, Hard: hard}},
		{snap(9, 3), api.Group{ID: 1, First: 10, Term: 3, Hard: hard}},
		{snap(tera, 7), api.Group{ID: 1, First: tera + 1, Term: 7, Hard: hard}},
	} {
		if got, e := group.Do(five(), c.p); e != 0 || !group.Same(got, c.want) {
			t.Errorf("P6.3: row %d: %+v, %v, not %+v", i, got, e, c.want)
		}
	}
}

// P6.4: terms and entries.
func TestTermEntries(t *testing.T) {
	for i, c := range []struct{ at, term, e int }{{2, 0, 15}, {-9, 0, 15}, {math.MinInt, 0, 15}, {3, 2, 0}, {4, 2, 0}, {5, 2, 0}, {6, 3, 0}, {8, 3, 0}, {9, 0, 16}, {math.MaxInt, 0, 16}} {
		if n, e := group.Term(five(), c.at); n != c.term || int(e) != c.e {
			t.Errorf("P6.4: term %d: %d, %v", i, n, e)
		}
	}
	for _, at := range []int{-1, 0} {
		if n, e := group.Term(group.New(1), at); n != 0 || e != api.ErrGone {
			t.Errorf("P6.4: term of %d of none: %d, %v", at, n, e)
		}
	}
	if n, e := group.Term(group.New(1), 1); n != 0 || e != api.ErrIndex {
		t.Errorf("P6.4: term of 1 of none: %d, %v", n, e)
	}
	for i, c := range []struct{ lo, hi, from, n, e int }{
		{4, 9, 4, 5, 0}, {4, 4, 4, 0, 0}, {9, 9, 9, 0, 0}, {5, 7, 5, 2, 0}, {8, 9, 8, 1, 0},
		{3, 9, 0, 0, 15}, {3, 3, 0, 0, 15}, {4, 10, 0, 0, 16}, {10, 10, 0, 0, 16}, {5, 4, 0, 0, 11}, {3, 2, 0, 0, 11}, {11, 10, 0, 0, 11}, {3, 20, 0, 0, 15},
		{math.MinInt, math.MaxInt, 0, 0, 15}, {math.MaxInt, math.MinInt, 0, 0, 11}, {math.MaxInt, math.MaxInt, 0, 0, 16}, {math.MinInt, math.MinInt, 0, 0, 15},
	} {
		g := five()
		l, e := group.Entries(g, c.lo, c.hi)
		ok := int(e) == c.e && len(l) == c.n
		for k := range l {
			ok = ok && l[k] == g.Entries[c.from-4+k]
			l[k].Data = "changed"
		}
		if _ = append(l, entry(0, 0)); !ok || !group.Same(g, five()) {
			t.Errorf("P6.4: entries %d: %+v, %v", i, l, e)
		}
	}
}

// model: a log as a map, told by the words of P6.2 to P6.4.
type model struct {
	first, last, term int
	entries           map[int]api.Entry
}

func (m *model) upTo(i, term int) {
	for k := range m.entries {
		if k <= i {
			delete(m.entries, k)
		}
	}
	m.first, m.term, m.last = i+1, term, max(m.last, i)
}

func (m *model) do(p api.Part) api.Errno {
	switch p.Kind {
	case api.KAppend:
		from := p.Entries[0].Index
		if from < m.first {
			return api.ErrGone
		}
		if from > m.last+1 {
			return api.ErrGap
		}
		for k := range m.entries {
			if k >= from {
				delete(m.entries, k)
			}
		}
		for _, e := range p.Entries {
			m.entries[e.Index], m.last = e, e.Index
		}
	case api.KCompact:
		if p.Index < m.first {
			return api.ErrGone
		}
		if p.Index > m.last {
			return api.ErrIndex
		}
		if p.Term != 0 && p.Term != m.entries[p.Index].Term {
			return api.ErrForm
		}
		m.upTo(p.Index, m.entries[p.Index].Term)
	case api.KSnap:
		if p.Index < m.first {
			return api.ErrGone
		}
		if m.entries[p.Index].Term != p.Term {
			clear(m.entries)
			m.last = p.Index
		}
		m.upTo(p.Index, p.Term)
	}
	return api.OK
}

// P6.2, P6.3, P6.5: whatever is done, the log does as the model; its entries stay one behind the other.
func TestAgainstModel(t *testing.T) {
	r := rand.New(rand.NewSource(1))
	for range 300 {
		g, m := group.New(1), &model{first: 1, entries: map[int]api.Entry{}}
		for range 60 {
			at := max(1, g.First-1+r.Intn(len(g.Entries)+4))
			p := []api.Part{add(at, 1+r.Intn(6), 1+r.Intn(3)), add(group.Last(g)+1, 1+r.Intn(6), 1+r.Intn(3)), compact(at, r.Intn(3)), snap(at, 1+r.Intn(3))}[r.Intn(4)]
			next, e := group.Do(g, p)
			if want := m.do(p); e != want || group.Check(g, p) != want {
				t.Fatalf("P6.2: %+v, %+v: %v, not %v", g, p, e, want)
			}
			g = next
			if !group.Is(g) || g.First != m.first || group.Last(g) != m.last || g.Term != m.term || len(g.Entries) != len(m.entries) {
				t.Fatalf("P6.5: behind %+v: %+v", p, g)
			}
			for _, e := range g.Entries {
				if e != m.entries[e.Index] {
					t.Fatalf("P6.3: behind %+v: %+v", p, g)
				}
			}
		}
	}
}

// No call panics, whatever the group is.
func TestWhatever(t *testing.T) {
	odd := []int{math.MinInt, math.MinInt + 1, -1, 0, 1, 2, 3, tera, tera + 1, math.MaxInt}
	r := rand.New(rand.NewSource(2))
	any := func() int { return odd[r.Intn(len(odd))] }
	for range 5000 {
		g := api.Group{ID: 1, First: any(), Term: any()}
		for range r.Intn(4) {
			g.Entries = append(g.Entries, entry(any(), any()))
		}
		group.Is(g)
		group.Last(g)
		for _, p := range []api.Part{add(1, 2, 1), compact(1, 1), compact(3, 0), snap(2, 1), snap(tera, 1)} {
			group.Check(g, p)
			group.Do(g, p)
		}
		group.Term(g, any())
		group.Entries(g, any(), any())
	}
}
