package forward_test

import (
	"math"
	"math/rand"
	"slices"
	"testing"

	"lade/api"
	"lade/forward"
	"lade/group"
	"lade/ledger"
	"lade/live"
	"lade/many"
	"lade/part"
	"lade/record"
)

func entries(t int, at ...int) []api.Entry {
	var l []api.Entry
	for _, i := range at {
		l = append(l, api.Entry{Index: i, Term: t, Data: "d"})
	}
	return l
}

func spots(g, segment int, indexes ...int) []api.Spot {
	var l []api.Spot
	for _, i := range indexes {
		l = append(l, api.Spot{Group: g, Index: i, Place: api.Place{Segment: segment, At: 16 + i}})
	}
	return l
}

func anew(g int, l ...api.Entry) api.Part {
	return api.Part{Group: g, Kind: api.KForward, Entries: l}
}

func alike(a, b []api.Part) bool { return slices.EqualFunc(a, b, part.Same) }

// two groups: 3 with mark 4 (term 2) and 5 to 12, 8 with a hard state and 1 to 7.
func two() []api.Group {
	return []api.Group{
		{ID: 3, First: 5, Term: 2, Hard: api.Hard{Term: 6}, Entries: entries(3, 5, 6, 7, 8, 9, 10, 11, 12)},
		{ID: 8, First: 1, Hard: api.Hard{Term: 7, Vote: 1, Commit: 2}, Entries: entries(4, 1, 2, 3, 4, 5, 6, 7)},
	}
}

// P17.1: what lies there, as parts.
func TestParts(t *testing.T) {
	marked := anew(3)
	marked.Mark, marked.Index, marked.Term = true, 4, 2
	headed := anew(8)
	headed.Head, headed.Hard = true, two()[1].Hard
	both := marked
	both.Head, both.Hard, both.Entries = true, two()[0].Hard, entries(3, 5, 6, 7, 8, 9, 10)
	headedSix := headed
	headedSix.Entries = entries(4, 1, 2, 3, 4, 5, 6)
	for i, c := range []struct {
		l    []api.Spot
		want []api.Part
	}{
		{nil, nil},
		{spots(3, 2, -1, 0, 5, 6), nil},
		{spots(3, 1, 6), []api.Part{anew(3, entries(3, 6)...)}},
		{spots(3, 1, 5, 7, 12), []api.Part{anew(3, entries(3, 5, 7, 12)...)}},
		{spots(3, 1, 0), []api.Part{marked}},
		{spots(8, 1, -1), []api.Part{headed}},
		{append(spots(3, 1, 0), spots(8, 1, -1)...), []api.Part{marked, headed}},
		{spots(8, 1, 1, 2, 3, 4, 5, 6), []api.Part{anew(8, entries(4, 1, 2, 3, 4, 5, 6)...)}},
		{spots(8, 1, 1, 2, 3, 4, 5, 6, 7), []api.Part{anew(8, entries(4, 1, 2, 3, 4, 5, 6)...), anew(8, entries(4, 7)...)}},
		{append(spots(3, 1, -1, 0, 5, 6, 7, 8, 9, 10, 11), spots(8, 1, -1, 1, 2, 3, 4, 5, 6, 7)...), []api.Part{both, anew(3, entries(3, 11)...), headedSix, anew(8, entries(4, 7)...)}},
		{append(spots(3, 2, -1, 0, 5), append(spots(3, 1, 6), spots(8, 2, 1)...)...), []api.Part{anew(3, entries(3, 6)...)}},
		{append(spots(1, 1, -1, 0, 1), spots(999, 1, 4)...), nil}, // of no group that is there
		{spots(3, 1, 3, 4, 13, -2), nil}, // of no entry that is there
	} {
		groups := two()
		got := forward.Parts(groups, c.l, 1)
		if !alike(got, c.want) {
			t.Errorf("P17.1: row %d: %+v, not %+v", i, got, c.want)
		}
		for k := range got {
			_ = append(got[k].Entries, api.Entry{Data: "changed"})
		}
		if !alike(got, c.want) {
			t.Errorf("P17.1: row %d: two parts share memory", i)
		}
		for k := range got {
			for m := range got[k].Entries {
				got[k].Entries[m].Data = "changed"
			}
		}
		if !slices.EqualFunc(groups, two(), group.Same) || !alike(forward.Parts(groups, c.l, 1), c.want) {
			t.Errorf("P17.1: row %d: memory is shared", i)
		}
	}
	if len(forward.Parts(nil, spots(3, 1, 5), 1)) != 0 {
		t.Error("P17.1: of no groups")
	}
}

// P17.2: as many parts in a record as go.
func TestRecords(t *testing.T) {
	const peta = 1 << 50
	f := func(i int) api.Part { return anew(1, entries(1, i)...) }
	hard := api.Part{Group: 1, Kind: api.KHard}
	rec := func(seq int, l ...api.Part) api.Record { return api.Record{Seq: seq, Parts: l} }
	none, unknown := api.Part{}, anew(1)
	unknown.Mark, unknown.Index = true, 4
	for i, c := range []struct {
		p    []api.Part
		seq  int
		want []api.Record
	}{
		{nil, 1, nil},
		{[]api.Part{f(1)}, 5, []api.Record{rec(5, f(1))}},
		{[]api.Part{f(1), f(2), f(3), f(4)}, 5, []api.Record{rec(5, f(1), f(2), f(3), f(4))}},
		{[]api.Part{f(1), f(2), f(3), f(4), f(5)}, 5, []api.Record{rec(5, f(1), f(2), f(3), f(4)), rec(6, f(5))}},
		{[]api.Part{f(1), f(2), f(3), f(4), f(5), f(6), f(7), f(8), f(9)}, 300, []api.Record{rec(300, f(1), f(2), f(3), f(4)), rec(301, f(5), f(6), f(7), f(8)), rec(302, f(9))}},
		{[]api.Part{none, f(1), unknown, f(2), none, f(3)}, 1, []api.Record{rec(1, f(1), f(2), f(3))}},
		{[]api.Part{none, unknown}, 1, nil},
		{[]api.Part{f(1), hard, hard, f(2)}, 1, []api.Record{rec(1, f(1)), rec(2, hard, hard), rec(3, f(2))}},
		{[]api.Part{f(1), f(2)}, 0, nil},
		{[]api.Part{f(1)}, -7, nil},
		{[]api.Part{f(1)}, math.MaxInt, nil},
		{[]api.Part{f(1)}, math.MinInt, nil},
		{[]api.Part{f(1), f(2), f(3), f(4), f(5)}, peta, []api.Record{rec(peta, f(1), f(2), f(3), f(4))}},
		{[]api.Part{f(1)}, peta + 1, nil},
	} {
		got := forward.Records(c.p, c.seq)
		if !slices.EqualFunc(got, c.want, record.Same) {
			t.Errorf("P17.2: row %d: %+v, not %+v", i, got, c.want)
		}
		for _, r := range got {
			if !record.Is(r) {
				t.Errorf("P17.2: row %d: no record", i)
			}
			for k := range r.Parts {
				_ = append(r.Parts[k].Entries, api.Entry{Data: "changed"})
				for m := range r.Parts[k].Entries {
					r.Parts[k].Entries[m].Data = "changed"
				}
				r.Parts[k].Group = 77
			}
			_ = append(r.Parts, none)
		}
		for _, p := range c.p {
			if len(p.Entries) > 0 && p.Entries[0].Data != "d" || p.Group == 77 {
				t.Errorf("P17.2: row %d: memory is shared", i)
			}
		}
		if !slices.EqualFunc(forward.Records(c.p, c.seq), c.want, record.Same) {
			t.Errorf("P17.2: row %d: another answer", i)
		}
	}
}

// P17.3: written anew, all that lay there lies elsewhere, and no group is another one.
func TestAnew(t *testing.T) {
	r := rand.New(rand.NewSource(1))
	for range 200 {
		m, g := many.New(), ledger.New()
		for k := range 40 {
			id, at, term := r.Intn(3), 1, 1+r.Intn(2)
			if h, ok := m.Get(id); ok {
				at = max(1, h.First-1+r.Intn(len(h.Entries)+3))
			}
			l := []api.Part{[]api.Part{{Group: id, Kind: api.KAppend, Entries: entries(term, at, at+1, at+2)}, {Group: id, Kind: api.KAppend, Entries: entries(term, at)}, {Group: id, Kind: api.KHard, Hard: api.Hard{Term: k}}, {Group: id, Kind: api.KCompact, Index: at}, {Group: id, Kind: api.KSnap, Index: at, Term: term}}[r.Intn(5)]}
			if settled := m.Settle(l); m.Do(l) == 0 {
				g.Do(settled, api.Place{Segment: k / 10, At: k})
			}
		}
		for segment := range 4 {
			groups := g.Groups()
			for _, rec := range forward.Records(forward.Parts(groups, g.Spots(), segment), 1) {
				g.Do(rec.Parts, api.Place{Segment: 9, At: 1000 * rec.Seq})
			}
			if live.Count(g.Spots(), segment) != 0 || !slices.EqualFunc(groups, g.Groups(), group.Same) {
				t.Fatalf("P17.3: segment %d: %+v", segment, g.Spots())
			}
		}
		if !many.Same(many.Of(g.Groups()), m) {
			t.Fatal("P17.3: other groups")
		}
	}
}
