package ledger_test

import (
	"math"
	"math/rand"
	"slices"
	"testing"

	"lade/api"
	"lade/group"
	"lade/ledger"
	"lade/part"
	"lade/place"
	"lade/sparse"
)

func entries(t int, at ...int) []api.Entry {
	var l []api.Entry
	for _, i := range at {
		l = append(l, api.Entry{Index: i, Term: t, Data: "d"})
	}
	return l
}

func add(g, t int, at ...int) api.Part {
	return api.Part{Group: g, Kind: api.KAppend, Entries: entries(t, at...)}
}

func hard(g, t int) api.Part { return api.Part{Group: g, Kind: api.KHard, Hard: api.Hard{Term: t}} }

func snap(g, i, t int) api.Part { return api.Part{Group: g, Kind: api.KSnap, Index: i, Term: t} }

func destroy(g int) api.Part { return api.Part{Group: g, Kind: api.KDestroy} }

func parts(l ...api.Part) []api.Part { return l }

func at(n int) api.Place { return api.Place{Segment: n, At: 100 * n} }

func spot(g, i, n int) api.Spot { return api.Spot{Group: g, Index: i, Place: at(n)} }

// three groups, and holes in none.
func three() *ledger.Ledger {
	g := ledger.New()
	g.Do(parts(add(999, 1, 1, 2), hard(0, 7)), at(1))
	g.Do(parts(snap(5, 8, 2), add(5, 3, 9), add(999, 1, 3)), at(2))
	return g
}

func groups(t *testing.T, what string, g *ledger.Ledger, want ...api.Group) {
	t.Helper()
	if got := g.Groups(); !slices.EqualFunc(got, want, group.Same) {
		t.Errorf("%s: %+v, not %+v", what, got, want)
	}
}

// P14.1, P14.2: what is done, and what is told of it, rising.
func TestDo(t *testing.T) {
	groups(t, "P14.1: New", ledger.New())
	g := three()
	all := []api.Group{{ID: 0, First: 1, Hard: api.Hard{Term: 7}}, {ID: 5, First: 9, Term: 2, Entries: entries(3, 9)}, {ID: 999, First: 1, Entries: entries(1, 1, 2, 3)}}
	groups(t, "P14.2: Groups", g, all...)
	want := []api.Spot{spot(0, -1, 1), spot(5, 0, 2), spot(5, 9, 2), spot(999, 1, 1), spot(999, 2, 1), spot(999, 3, 2)}
	if !slices.Equal(g.Spots(), want) || len(ledger.New().Spots()) != 0 {
		t.Errorf("P14.2: Spots: %v", g.Spots())
	}
	for i := range all {
		if got, ok := g.Get(all[i].ID); !ok || !group.Same(got, all[i]) {
			t.Errorf("P14.2: Get: %+v, %v", got, ok)
		}
	}
	for _, id := range []int{1, -1, 1000, math.MaxInt} {
		if got, ok := g.Get(id); ok || !group.Same(got, api.Group{}) {
			t.Errorf("P14.2: Get(%d): %+v, %v", id, got, ok)
		}
	}
	g.Do(nil, at(3))
	g.Do(parts(api.Part{}, hard(1000, 1), hard(-1, 1), add(0, 1, 2, 4), snap(1, 0, 1), api.Part{Group: 1, Kind: api.KForward}), at(3))
	if groups(t, "P14.1: ill-formed parts", g, all...); !slices.Equal(g.Spots(), want) {
		t.Errorf("P14.1: ill-formed parts: %v", g.Spots())
	}
	g.Do(parts(destroy(5), destroy(6), hard(5, 1), add(999, 2, 2), destroy(0), hard(7, 1), destroy(7)), at(4))
	groups(t, "P14.1: in order", g, api.Group{ID: 5, First: 1, Hard: api.Hard{Term: 1}}, api.Group{ID: 999, First: 1, Entries: append(entries(1, 1), entries(2, 2)...)})
	if !slices.Equal(g.Spots(), []api.Spot{spot(5, -1, 4), spot(999, 1, 1), spot(999, 2, 4)}) {
		t.Errorf("P14.1: in order: %v", g.Spots())
	}
	g.Do(parts(api.Part{Group: 8, Kind: api.KForward, Mark: true, Index: 3, Term: 1, Entries: entries(1, 4)}), at(5))
	if got, ok := g.Get(8); !ok || !group.Same(got, api.Group{ID: 8, First: 4, Term: 1, Entries: entries(1, 4)}) {
		t.Errorf("P14.1: written anew: %+v", got)
	}
}

// P14.2: holes.
func TestDense(t *testing.T) {
	g := three()
	if !g.Dense() || !ledger.New().Dense() {
		t.Error("P14.2: without holes")
	}
	for _, id := range []int{0, 3, 5, 999} {
		h := g.Copy()
		if h.Do(parts(add(id, 1, 20)), at(3)); h.Dense() {
			t.Errorf("P14.2: a hole in %d", id)
		}
		if h.Do(parts(destroy(id)), at(4)); !h.Dense() {
			t.Errorf("P14.2: no hole in %d", id)
		}
	}
}

// P14.2: copies, likeness.
func TestCopySame(t *testing.T) {
	g := three()
	c := g.Copy()
	if !ledger.Same(g, c) || !ledger.Same(c, g) || !ledger.Same(ledger.New(), ledger.New()) || ledger.Same(g, ledger.New()) || ledger.Same(ledger.New(), g) {
		t.Error("P14.2: alike")
	}
	for i, l := range [][]api.Part{parts(hard(0, 7)), parts(hard(0, 8)), parts(add(999, 1, 3)), parts(add(999, 2, 3)), parts(destroy(5)), parts(hard(6, 0)), parts(snap(5, 9, 3))} {
		for _, n := range []int{2, 3} { // written at another place is not alike, either
			d := g.Copy()
			d.Do(l, at(n))
			same := i == 2 && n == 2
			if ledger.Same(g, d) != same || ledger.Same(d, g) != same || !ledger.Same(g, c) {
				t.Errorf("P14.2: copy %d, %d", i, n)
			}
		}
	}
	all, spots := g.Groups(), g.Spots()
	c.Do(parts(destroy(0), add(5, 1, 10), hard(7, 7)), at(9))
	if groups(t, "P14.2: of the copy nothing is told", g, all...); !slices.Equal(spots, g.Spots()) {
		t.Error("P14.2: of the copy nothing is told")
	}
	one, _ := g.Get(999)
	one.Entries[0].Data, all[2].Entries[1].Data, spots[0].Group = "changed", "changed", 9
	if !ledger.Same(g, three()) {
		t.Error("P14.2: memory is shared")
	}
}

// P14.1, P14.3: each group's log does as if it were alone.
func TestAlone(t *testing.T) {
	r := rand.New(rand.NewSource(1))
	for range 60 {
		g := ledger.New()
		alone := map[int]*place.Log{}
		for k := range 60 {
			var l []api.Part
			for range 1 + r.Intn(4) {
				id, i, term := r.Intn(4), 1+r.Intn(9), 1+r.Intn(2)
				l = append(l, []api.Part{add(id, term, i), add(id, term, i, i+1), hard(id, i), snap(id, i, term), {Group: id, Kind: api.KCompact, Index: i}, destroy(id), {Group: id, Kind: api.KForward, Entries: entries(term, i, i+3)}, {Group: id, Kind: 9}}[r.Intn(8)])
			}
			g.Do(l, at(k))
			for _, p := range l {
				if !part.Is(p) {
					continue
				}
				if p.Kind == api.KDestroy {
					delete(alone, p.Group)
					continue
				}
				if alone[p.Group] == nil {
					alone[p.Group] = place.New(p.Group)
				}
				alone[p.Group].Do(p, at(k))
			}
			var spots []api.Spot
			dense := true
			for id := range 4 {
				got, ok := g.Get(id)
				if ok != (alone[id] != nil) || ok && !group.Same(got, alone[id].Group()) {
					t.Fatalf("P14.3: group %d: %+v", id, got)
				}
				if ok {
					spots = append(spots, alone[id].Spots()...)
					dense = dense && sparse.Dense(got)
				}
			}
			if len(g.Groups()) != len(alone) || !slices.Equal(g.Spots(), spots) || g.Dense() != dense {
				t.Fatalf("P14.3: behind %+v: %v", l, g.Spots())
			}
		}
	}
}
