package many_test

import (
	"math/rand"
	"testing"

	"lade/api"
	"lade/group"
	"lade/many"
	"lade/part"
)

func run(from, n, t int) []api.Entry {
	var l []api.Entry
	for i := range n {
		l = append(l, api.Entry{Index: from + i, Term: t, Data: "d"})
	}
	return l
}

func add(g, from, n, t int) api.Part {
	return api.Part{Group: g, Kind: api.KAppend, Entries: run(from, n, t)}
}

func hard(g, t int) api.Part { return api.Part{Group: g, Kind: api.KHard, Hard: api.Hard{Term: t}} }

func compact(g, i, t int) api.Part {
	return api.Part{Group: g, Kind: api.KCompact, Index: i, Term: t}
}

func snap(g, i, t int) api.Part { return api.Part{Group: g, Kind: api.KSnap, Index: i, Term: t} }

func destroy(g int) api.Part { return api.Part{Group: g, Kind: api.KDestroy} }

func parts(l ...api.Part) []api.Part { return l }

// begun: group 1 has 1 to 5 (terms 1, 1, 2, 2, 2), group 3 nothing but a hard state.
func begun(t *testing.T) *many.Many {
	m := many.New()
	for _, l := range [][]api.Part{parts(hard(3, 7), add(1, 1, 2, 1)), parts(add(1, 3, 3, 2))} {
		if e := m.Do(l); e != 0 {
			t.Fatal(e)
		}
	}
	return m
}

func alike(a, b []api.Part) bool {
	if len(a) != len(b) {
		return false
	}
	for i := range a {
		if !part.Same(a[i], b[i]) {
			return false
		}
	}
	return true
}

// P7.1: which groups are taken, and how they are told.
func TestOfGetAll(t *testing.T) {
	if l := many.New().All(); len(l) != 0 {
		t.Errorf("P7.1: New: %v", l)
	}
	one, other := api.Group{ID: 9, First: 3, Term: 1, Entries: run(3, 2, 1)}, api.Group{ID: 9, First: 1}
	spoilt := api.Group{ID: 2, First: 1, Entries: run(2, 1, 1)}
	m := many.Of([]api.Group{{ID: 999, First: 1}, {ID: 1000, First: 1}, {ID: -1, First: 1}, spoilt, {ID: 2, First: 8}, one, other, {ID: 0, First: 5}})
	var ids []int
	for _, g := range m.All() {
		ids = append(ids, g.ID)
	}
	if len(ids) != 4 || ids[0] != 0 || ids[1] != 2 || ids[2] != 9 || ids[3] != 999 {
		t.Fatalf("P7.1: All: %v", ids)
	}
	if g, ok := m.Get(9); !ok || !group.Same(g, one) {
		t.Errorf("P7.1: of each ID the first: %+v", g)
	}
	if g, ok := m.Get(2); !ok || g.First != 8 {
		t.Errorf("P7.1: the first that is well-formed: %+v", g)
	}
	for _, id := range []int{1, -1, 1000} {
		if g, ok := m.Get(id); ok || !group.Same(g, api.Group{}) {
			t.Errorf("P7.1: Get(%d): %+v", id, g)
		}
	}
}

// P7.1: copies and likeness.
func TestCopySame(t *testing.T) {
	m := begun(t)
	c := m.Copy()
	if !many.Same(m, c) || !many.Same(c, m) || !many.Same(many.New(), many.Of(nil)) {
		t.Error("P7.1: alike")
	}
	for i, l := range [][]api.Part{parts(destroy(3)), parts(hard(3, 8)), parts(add(1, 6, 1, 1)), parts(hard(4, 1)), parts(compact(1, 1, 0))} {
		d := m.Copy()
		if e := d.Do(l); e != 0 || many.Same(m, d) || many.Same(d, m) || !many.Same(m, c) {
			t.Errorf("P7.1: copy %d: %v", i, e)
		}
	}
	if many.Same(m, many.New()) || many.Same(many.New(), m) {
		t.Error("P7.1: none is like some")
	}
}

// P7.2: what can't be done, and that then nothing is.
func TestRefused(t *testing.T) {
	five := parts(hard(1, 1), hard(1, 2), hard(1, 3), hard(1, 4), hard(1, 5))
	for i, c := range []struct {
		l []api.Part
		e api.Errno
	}{
		{nil, api.ErrForm}, {five, api.ErrForm}, {five[:4], 0},
		{parts(hard(1000, 1)), api.ErrForm}, {parts(api.Part{}), api.ErrForm}, {parts(destroy(9), hard(-1, 1)), api.ErrForm},
		{parts(api.Part{Group: 1, Kind: api.KForward, Entries: run(1, 1, 1)}), api.ErrForm}, {parts(destroy(9), api.Part{Group: 1, Kind: api.KForward, Head: true}), api.ErrForm},
		{parts(destroy(9)), api.ErrGroup}, {parts(compact(9, 1, 0)), api.ErrGroup}, {parts(hard(1, 9), destroy(9)), api.ErrGroup},
		{parts(destroy(1), compact(1, 1, 0)), api.ErrGroup}, {parts(destroy(1), destroy(1)), api.ErrGroup}, {parts(hard(9, 1), compact(9, 1, 0)), api.ErrIndex},
		{parts(add(1, 7, 1, 1)), api.ErrGap}, {parts(add(1, 6, 1, 1), add(1, 7, 1, 1)), 0}, {parts(add(2, 2, 1, 1)), api.ErrGap}, {parts(destroy(1), add(1, 2, 1, 1)), api.ErrGap},
		{parts(compact(1, 3, 0), add(1, 3, 1, 1)), api.ErrGone}, {parts(compact(1, 6, 0)), api.ErrIndex}, {parts(compact(1, 3, 1)), api.ErrForm}, {parts(compact(1, 3, 2)), 0},
		{parts(snap(1, 3, 2), snap(1, 3, 2)), api.ErrGone}, {parts(snap(8, 4, 4)), 0}, {parts(snap(8, 4, 4), add(8, 5, 2, 4)), 0},
		{parts(add(1, 6, 1, 1), add(1, 8, 1, 1), destroy(9)), api.ErrGap},
	} {
		m := begun(t)
		e := m.Check(c.l)
		if e != c.e || !many.Same(m, begun(t)) {
			t.Errorf("P7.2: row %d: Check: %v, not %v", i, e, c.e)
		}
		if e := m.Do(c.l); e != c.e {
			t.Errorf("P7.2: row %d: Do: %v, not %v", i, e, c.e)
		}
		if many.Same(m, begun(t)) != (c.e != 0) {
			t.Errorf("P7.4: row %d: done in part, or not at all", i)
		}
	}
}

// P7.2: part by part, on what those ahead made.
func TestDo(t *testing.T) {
	m := begun(t)
	if e := m.Do(parts(destroy(1), add(1, 1, 2, 9), compact(1, 1, 9), hard(0, 3))); e != 0 {
		t.Fatal(e)
	}
	want := many.Of([]api.Group{{ID: 1, First: 2, Term: 9, Entries: run(2, 1, 9)}, {ID: 3, First: 1, Hard: api.Hard{Term: 7}}, {ID: 0, First: 1, Hard: api.Hard{Term: 3}}})
	if !many.Same(m, want) {
		t.Errorf("P7.2: %+v", m.All())
	}
	if e := m.Do(parts(destroy(0))); e != 0 {
		t.Error(e)
	}
	if _, ok := m.Get(0); ok {
		t.Error("P7.2: a group that was destroyed is there")
	}
}

// P7.3: what is settled, and what stays as it is.
func TestSettle(t *testing.T) {
	forward := api.Part{Group: 1, Kind: api.KForward, Entries: run(1, 1, 1)}
	spoilt := destroy(1)
	spoilt.Index = 3
	for i, c := range []struct{ l, want []api.Part }{
		{nil, nil},
		{parts(compact(1, 2, 0)), parts(compact(1, 2, 1))},
		{parts(compact(1, 2, 1)), parts(compact(1, 2, 1))},
		{parts(compact(1, 2, 7)), parts(compact(1, 2, 7))}, // can't be done
		{parts(compact(1, 9, 0)), parts(compact(1, 9, 0))},
		{parts(compact(2, 1, 0)), parts(compact(2, 1, 0))},
		{parts(snap(1, 3, 2)), parts(compact(1, 3, 2))},
		{parts(snap(1, 3, 1)), parts(snap(1, 3, 1))},
		{parts(snap(1, 9, 2)), parts(snap(1, 9, 2))},
		{parts(snap(2, 3, 1)), parts(snap(2, 3, 1))},
		{parts(add(1, 6, 1, 8), compact(1, 6, 0)), parts(add(1, 6, 1, 8), compact(1, 6, 8))},
		{parts(add(1, 2, 1, 8), snap(1, 2, 8), compact(1, 3, 0)), parts(add(1, 2, 1, 8), compact(1, 2, 8), compact(1, 3, 0))},
		{parts(snap(1, 2, 9), snap(1, 2, 9), snap(1, 3, 2)), parts(snap(1, 2, 9), snap(1, 2, 9), snap(1, 3, 2))},
		{parts(snap(1, 2, 1), compact(1, 2, 0), compact(1, 4, 0)), parts(compact(1, 2, 1), compact(1, 2, 0), compact(1, 4, 2))},
		{parts(destroy(1), compact(1, 2, 0), add(1, 1, 3, 4), snap(1, 2, 4)), parts(destroy(1), compact(1, 2, 0), add(1, 1, 3, 4), compact(1, 2, 4))},
		{parts(api.Part{}, hard(1000, 1), forward, compact(1, 1, 0), hard(1, 1), hard(1, 2)), parts(api.Part{}, hard(1000, 1), forward, compact(1, 1, 1), hard(1, 1), hard(1, 2))},
		{parts(add(1, 9, 1, 1), compact(1, 5, 0)), parts(add(1, 9, 1, 1), compact(1, 5, 2))},
		{parts(spoilt, compact(1, 2, 0)), parts(spoilt, compact(1, 2, 1))},
	} {
		m := begun(t)
		if got := m.Settle(c.l); !alike(got, c.want) || !many.Same(m, begun(t)) {
			t.Errorf("P7.3: row %d: %+v", i, got)
		}
	}
}

// P7.3: what is settled does the same as what was handed in.
func TestSettledDoesTheSame(t *testing.T) {
	r := rand.New(rand.NewSource(1))
	m := many.New()
	for range 3000 {
		var l []api.Part
		for range 1 + r.Intn(4) {
			id, at, term := r.Intn(3), 1+r.Intn(12), 1+r.Intn(2)
			if g, ok := m.Get(id); ok {
				at = g.First - 1 + r.Intn(len(g.Entries)+4)
			}
			l = append(l, []api.Part{add(id, max(at, 1), 1+r.Intn(3), term), add(id, max(at, 1), 2, term), compact(id, at, r.Intn(3)), snap(id, at, term), hard(id, at), destroy(id)}[r.Intn(6)])
		}
		a, b := m.Copy(), m.Copy()
		ea, eb := a.Do(l), b.Do(m.Settle(l))
		if ea != eb || !many.Same(a, b) || ea != m.Check(l) {
			t.Fatalf("P7.3: %+v: %v, %v", l, ea, eb)
		}
		if ea != 0 && !many.Same(a, m) {
			t.Fatalf("P7.4: %+v", l)
		}
		if m = a; r.Intn(40) == 0 {
			m = many.New()
		}
	}
}

// What is answered is new memory, and what is handed in isn't kept.
func TestMemory(t *testing.T) {
	handed := []api.Group{{ID: 1, First: 1, Entries: run(1, 3, 1)}}
	m := many.Of(handed)
	before := m.Copy()
	handed[0].Entries[0].Data = "changed"
	l := parts(add(1, 4, 2, 1), add(1, 6, 1, 1))
	if m.Do(l) != 0 || before.Do(parts(add(1, 4, 2, 1), add(1, 6, 1, 1))) != 0 {
		t.Fatal("done")
	}
	s := m.Settle(l)
	l[0].Entries[0].Data = "changed"
	if s[0].Entries[0].Data != "d" {
		t.Error("P7.3: Settle shares memory with what is handed in")
	}
	g, _ := m.Get(1)
	all := m.All()
	for i := range g.Entries {
		g.Entries[i].Data, all[0].Entries[i].Term = "changed", 99
	}
	_ = append(g.Entries, api.Entry{})
	if !many.Same(m, before) {
		t.Errorf("P7.1: memory is shared: %+v", m.All())
	}
}
