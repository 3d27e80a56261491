package sparse_test

import (
	"math"
	"math/rand"
	"strings"
	"testing"

	"lade/api"
	"lade/group"
	"lade/sparse"
)

const tera = 1 << 40

// entries of term t, at those Indexes.
func entries(t int, at ...int) []api.Entry {
	var l []api.Entry
	for _, i := range at {
		l = append(l, api.Entry{Index: i, Term: t, Data: "d"})
	}
	return l
}

func add(t int, at ...int) api.Part {
	return api.Part{Group: 1, Kind: api.KAppend, Entries: entries(t, at...)}
}

func compact(i, t int) api.Part { return api.Part{Group: 1, Kind: api.KCompact, Index: i, Term: t} }

func snap(i, t int) api.Part { return api.Part{Group: 1, Kind: api.KSnap, Index: i, Term: t} }

func again(t int, at ...int) api.Part {
	return api.Part{Group: 1, Kind: api.KForward, Entries: entries(t, at...)}
}

func mark(i, t int, l ...api.Entry) api.Part {
	return api.Part{Group: 1, Kind: api.KForward, Mark: true, Index: i, Term: t, Entries: l}
}

func log(first, term int, l ...api.Entry) api.Group {
	return api.Group{ID: 1, First: first, Term: term, Hard: api.Hard{Term: 5}, Entries: l}
}

func join(l ...[]api.Entry) []api.Entry {
	var all []api.Entry
	for _, e := range l {
		all = append(all, e...)
	}
	return all
}

// holes: 4 is the first that may be there; 5, 6 and 9 are, of terms 2, 2 and 3.
func holes() api.Group { return log(4, 1, join(entries(2, 5, 6), entries(3, 9))...) }

// P12.1: with holes, and without.
func TestIs(t *testing.T) {
	for i, g := range []api.Group{holes(), {First: 1}, log(1, 0, entries(1, tera)...), log(4, 0, entries(1, 4, 5)...), {ID: 999, First: tera + 1, Term: tera}, log(1, 0, entries(1, 1, 3)...)} {
		dense := i == 1 || i == 3 || i == 4
		if !sparse.Is(g) || sparse.Dense(g) != dense || group.Is(g) != dense {
			t.Errorf("P12.1: good log %d", i)
		}
	}
	long := api.Entry{Index: 4, Term: 1, Data: strings.Repeat("x", 41)}
	for i, g := range []api.Group{{}, {ID: 1000, First: 1}, {ID: -1, First: 1}, {First: tera + 2}, {First: 1, Term: -1}, {First: 1, Term: tera + 1}, {First: 1, Hard: api.Hard{Vote: -1}}, log(4, 0, entries(1, 3)...), log(4, 0, entries(1, 5, 5)...), log(4, 0, entries(1, 6, 5)...), log(4, 0, entries(1, 4, tera+1)...), log(4, 0, entries(0, 4)...), log(4, 0, long)} {
		if sparse.Is(g) || sparse.Dense(g) {
			t.Errorf("P12.1: bad log %d", i)
		}
	}
}

// P12.2: what is done.
func TestDo(t *testing.T) {
	forward := mark(5, 2, entries(8, 5, 7)...)
	forward.Head, forward.Hard = true, api.Hard{Vote: 2}
	behind := log(6, 2, join(entries(2, 6), entries(8, 7), entries(3, 9))...)
	behind.Hard = api.Hard{Vote: 2}
	hard := holes()
	hard.Hard = api.Hard{Commit: 9}
	other := add(1, 10)
	other.Group = 2
	spoilt := add(1, 10, 12)
	for i, c := range []struct {
		p    api.Part
		want api.Group
	}{
		{add(7, 20, 21), log(4, 1, join(holes().Entries, entries(7, 20, 21))...)},
		{add(7, 9, 10), log(4, 1, join(entries(2, 5, 6), entries(7, 9, 10))...)},
		{add(7, 8), log(4, 1, join(entries(2, 5, 6), entries(7, 8))...)},
		{add(7, 4), log(4, 1, entries(7, 4)...)},
		{add(7, 2, 3, 4, 5), log(4, 1, entries(7, 4, 5)...)},
		{add(7, 1, 2, 3), log(4, 1)},
		{api.Part{Group: 1, Kind: api.KHard, Hard: api.Hard{Commit: 9}}, hard},
		{compact(3, 9), holes()},
		{compact(4, 0), log(5, 0, holes().Entries...)},
		{compact(4, 9), log(5, 9, holes().Entries...)},
		{compact(5, 0), log(6, 2, join(entries(2, 6), entries(3, 9))...)},
		{compact(5, 9), log(6, 9, join(entries(2, 6), entries(3, 9))...)},
		{compact(7, 0), log(8, 0, entries(3, 9)...)},
		{compact(9, 0), log(10, 3)},
		{compact(50, 0), log(51, 0)},
		{compact(tera, 4), log(tera+1, 4)},
		{snap(3, 9), holes()},
		{snap(4, 9), log(5, 9)},
		{snap(5, 2), log(6, 2)},
		{snap(50, 2), log(51, 2)},
		{again(8, 4), log(4, 1, join(entries(8, 4), holes().Entries)...)},
		{again(8, 1, 3, 5, 7, 9, 10), log(4, 1, join(entries(2, 5, 6), entries(8, 7), entries(3, 9), entries(8, 10))...)},
		{again(8, 2, 3), holes()},
		{mark(3, 9), holes()},
		{mark(3, 9, entries(8, 3, 4)...), log(4, 1, join(entries(8, 4), holes().Entries)...)},
		{mark(5, 9), log(6, 9, join(entries(2, 6), entries(3, 9))...)},
		{mark(8, 9, entries(8, 7, 8, 10)...), log(9, 9, join(entries(3, 9), entries(8, 10))...)},
		{forward, behind},
		{api.Part{Group: 1, Kind: api.KDestroy}, holes()},
		{api.Part{}, holes()}, {other, holes()}, {spoilt, holes()}, {snap(9, 0), holes()}, {api.Part{Group: 1, Kind: api.KForward}, holes()},
	} {
		g := holes()
		room := append(make([]api.Entry, 0, 9), g.Entries...)
		g.Entries = room
		got := sparse.Do(g, c.p)
		if !group.Same(got, c.want) {
			t.Errorf("P12.2: row %d: %+v, not %+v", i, got, c.want)
		}
		for k := range got.Entries {
			got.Entries[k].Data = "changed"
		}
		_ = append(got.Entries, api.Entry{Data: "changed"})
		if !group.Same(g, holes()) || room[:9][3] != (api.Entry{}) {
			t.Errorf("P12.2: row %d: what was handed in is changed", i)
		}
	}
	if g := sparse.Do(group.New(1), add(1, 5)); !group.Same(g, api.Group{ID: 1, First: 1, Entries: entries(1, 5)}) {
		t.Errorf("P12.2: an entry of Index 5 behind none: %+v", g)
	}
}

// P12.2: of what isn't well-formed nothing changes, and no call panics.
func TestWhatever(t *testing.T) {
	odd := []int{math.MinInt, -1, 0, 1, 2, 3, 4, tera, tera + 1, math.MaxInt}
	r := rand.New(rand.NewSource(1))
	any := func() int { return odd[r.Intn(len(odd))] }
	for range 20000 {
		g := api.Group{ID: 1, First: any(), Term: any()}
		for range r.Intn(4) {
			g.Entries = append(g.Entries, entries(any(), any())...)
		}
		for _, p := range []api.Part{add(1, 1, 2), compact(1, 1), compact(3, 0), snap(2, 1), snap(tera, 1), again(1, 2, 4), mark(2, 1), mark(tera, 1, entries(1, 4)...)} {
			got := sparse.Do(g, p)
			if !sparse.Is(g) && !group.Same(got, g) || sparse.Is(g) && !sparse.Is(got) {
				t.Fatalf("P12.2: %+v, %+v: %+v", g, p, got)
			}
		}
	}
}

// P12.3: without holes, where group's Do errs not, it does the same (of a snapshot: where the log doesn't have its entry).
func TestAsGroup(t *testing.T) {
	r := rand.New(rand.NewSource(2))
	done := 0
	for range 300 {
		g := group.New(1)
		for range 40 {
			at, term := max(1, g.First-1+r.Intn(len(g.Entries)+4)), 1+r.Intn(3)
			p := []api.Part{add(term, at, at+1), add(term, group.Last(g)+1), compact(at, r.Intn(3)), snap(at, term), {Group: 1, Kind: api.KHard, Hard: api.Hard{Term: at}}}[r.Intn(5)]
			next, e := group.Do(g, p)
			if has, _ := group.Term(g, at); e != 0 || p.Kind == api.KSnap && has == p.Term {
				continue
			}
			if got := sparse.Do(g, p); !group.Same(got, next) {
				t.Fatalf("P12.3: %+v, %+v: %+v, not %+v", g, p, got, next)
			}
			g = next
			done++
		}
	}
	if done < 1000 {
		t.Errorf("P12.3: %d parts were done", done)
	}
}
