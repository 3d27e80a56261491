package cut_test

import (
	"math"
	"math/rand"
	"slices"
	"testing"

	"lade/api"
	"lade/cut"
	"lade/disk"
	"lade/many"
	"lade/store"
)

func add(g int, at ...int) api.Part {
	p := api.Part{Group: g, Kind: api.KAppend}
	for _, i := range at {
		p.Entries = append(p.Entries, api.Entry{Index: i, Term: 1, Data: "d"})
	}
	return p
}

func hard(g, t int) api.Part { return api.Part{Group: g, Kind: api.KHard, Hard: api.Hard{Term: t}} }

func destroy(g int) api.Part { return api.Part{Group: g, Kind: api.KDestroy} }

// writes: the third errs, the fourth changes nothing, the last two undo what went ahead.
func writes() [][]api.Part {
	return [][]api.Part{{hard(1, 7)}, {add(2, 1, 2), hard(2, 1)}, {hard(1, 9), destroy(9)}, {hard(1, 7)}, {add(2, 3)}, {hard(5, 1)}, {destroy(5)}, {destroy(2)}}
}

func begun() *many.Many { return many.Of([]api.Group{{ID: 4, First: 3, Term: 1}}) }

// P26.1: a copy behind so many of the writes.
func TestAfter(t *testing.T) {
	b, m := begun(), begun()
	for k := 0; k <= len(writes()); k++ {
		if got := cut.After(b, writes(), k); !many.Same(got, m) || !many.Same(b, begun()) {
			t.Errorf("P26.1: After %d: %+v", k, got.All())
		}
		if k < len(writes()) {
			m.Do(writes()[k])
		}
	}
	for _, k := range []int{-1, math.MinInt} {
		if got := cut.After(b, writes(), k); !many.Same(got, begun()) {
			t.Errorf("P26.1: After %d: %+v", k, got.All())
		}
	}
	for _, k := range []int{9, math.MaxInt} {
		if got := cut.After(b, writes(), k); !many.Same(got, m) {
			t.Errorf("P26.1: After %d: %+v", k, got.All())
		}
	}
	got := cut.After(b, nil, 3)
	if got.Do([]api.Part{destroy(4)}) != 0 || !many.Same(b, begun()) {
		t.Error("P26.1: After is no copy")
	}
}

// P26.1: the least number behind which it has just these groups.
func TestFits(t *testing.T) {
	// behind 2 it is as behind 3 and 4; behind 5 as behind 7; behind 1 as behind 8
	for k, want := range []int{0, 1, 2, 2, 2, 5, 6, 5, 1} {
		got := cut.After(begun(), writes(), k).All()
		if n, ok := cut.Fits(got, begun(), writes()); n != want || !ok {
			t.Errorf("P26.1: what is behind %d fits behind %d, %v", k, n, ok)
		}
		slices.Reverse(got)
		if n, ok := cut.Fits(got, begun(), writes()); n != want || !ok {
			t.Errorf("P26.1: in another order: %d, %v", n, ok)
		}
	}
	all := begun().All()
	for i, got := range [][]api.Group{
		nil, {{ID: 4, First: 3, Term: 2}}, {all[0], {ID: 1, First: 1}}, {all[0], {ID: 1, First: 1, Hard: api.Hard{Term: 9}}}, {{ID: 1, First: 1, Hard: api.Hard{Term: 7}}},
		{all[0], {ID: 1000, First: 1}}, {all[0], {}}, {all[0], {ID: 4, First: 9}}, {{ID: 4, First: 9}, all[0]},
	} {
		if n, ok := cut.Fits(got, begun(), writes()); n != -1 || ok {
			t.Errorf("P26.1: row %d fits behind %d", i, n)
		}
	}
	if n, ok := cut.Fits(all, begun(), nil); n != 0 || !ok {
		t.Errorf("P26.1: of no writes: %d, %v", n, ok)
	}
	if n, ok := cut.Fits(nil, many.New(), writes()); n != 0 || !ok {
		t.Errorf("P26.1: of nothing: %d, %v", n, ok)
	}
	b := begun()
	if cut.Fits(nil, b, writes()); !many.Same(b, begun()) {
		t.Error("P26.1: what was begun is changed")
	}
}

// P26.2: what a loss of power leaves of a store is a beginning, not ahead of what was synced.
func TestBeginning(t *testing.T) {
	r := rand.New(rand.NewSource(1))
	for range 60 {
		d := disk.New(100000)
		s, _ := store.Open(d, 0, 1, nil)
		var l [][]api.Part
		synced := 0
		for k := range 50 {
			w := []api.Part{add(r.Intn(3), 1, 2, 3+r.Intn(2)), hard(r.Intn(3), k)}
			if s.Write(w); r.Intn(12) == 0 {
				s.Sync()
				synced = k + 1
			}
			l = append(l, w)
		}
		d.Crash(r.Uint64())
		s, e := store.Open(d, 0, 2, nil)
		if e != 0 {
			t.Fatal(e)
		}
		k, ok := cut.Fits(s.Groups(), many.New(), l)
		if !ok || k < synced && !many.Same(cut.After(many.New(), l, k), cut.After(many.New(), l, synced)) {
			t.Fatalf("P26.2: %d, %v; synced were %d", k, ok, synced)
		}
	}
}
