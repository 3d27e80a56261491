package shard_test

import (
	"math"
	"math/rand"
	"slices"
	"testing"

	"lade/api"
	"lade/record"
	"lade/shard"
)

// P18.1: which shard a group is of.
func TestOf(t *testing.T) {
	for _, c := range []struct{ group, n, want int }{
		{5, 2, 1}, {4, 2, 0}, {999, 64, 39}, {999, 65, 39}, {999, math.MaxInt, 39}, {7, 1, 0}, {7, 0, 0}, {7, -4, 0}, {7, math.MinInt, 0}, {63, 64, 63}, {64, 64, 0}, {-1, 5, 0}, {math.MinInt, 64, 0}, {-3, 2, 0}, {math.MaxInt, 10, 7},
	} {
		if got := shard.Of(c.group, c.n); got != c.want {
			t.Errorf("P18.1: Of(%d, %d): %d, not %d", c.group, c.n, got, c.want)
		}
	}
}

func add(g, i int) api.Part {
	return api.Part{Group: g, Kind: api.KAppend, Entries: []api.Entry{{Index: i, Term: 1, Data: "d"}}}
}

func found(seq int, l ...api.Part) api.Found {
	return api.Found{R: api.Record{Seq: seq, Parts: l}, Place: api.Place{Segment: seq % 3, At: 10 * seq}}
}

func alike(a, b []api.Found) bool {
	return slices.EqualFunc(a, b, func(a, b api.Found) bool { return a.Place == b.Place && record.Same(a.R, b.R) })
}

// P18.1: who has which parts of which records.
func TestSplit(t *testing.T) {
	l := []api.Found{found(1, add(0, 1), add(1, 1), add(2, 1)), found(2, add(4, 2)), found(3), found(4, add(1, 3), add(3, 4), add(1, 5)), found(5, add(-1, 1))}
	got := shard.Split(l, 3)
	want := [][]api.Found{
		{found(1, add(0, 1)), found(4, add(3, 4)), found(5, add(-1, 1))},
		{found(1, add(1, 1)), found(2, add(4, 2)), found(4, add(1, 3), add(1, 5))},
		{found(1, add(2, 1))},
	}
	if !slices.EqualFunc(got, want, alike) {
		t.Errorf("P18.1: %+v", got)
	}
	for n, many := range map[int]int{-1: 1, 0: 1, 1: 1, 2: 2, 64: 64, 65: 64, math.MaxInt: 64, math.MinInt: 1} {
		if got := shard.Split(l, n); len(got) != many {
			t.Errorf("P18.1: %d shards of %d", len(got), n)
		}
		if got := shard.Split(nil, n); len(got) != many || len(got[0]) != 0 {
			t.Errorf("P18.1: %d shards of %d, without records", len(got), n)
		}
	}
	one := shard.Split(l, 1)[0]
	if !alike(one, slices.Concat(l[:2], l[3:])) {
		t.Errorf("P18.1: one shard: %+v", one)
	}
}

// P18.2: each part goes to one shard, its own; nothing is shared.
func TestWhatever(t *testing.T) {
	r := rand.New(rand.NewSource(1))
	for range 200 {
		var l, keep []api.Found
		parts := 0
		for k := range r.Intn(20) {
			var p, q []api.Part
			for range r.Intn(5) {
				g := r.Intn(12) - 1
				p, q = append(p, add(g, parts)), append(q, add(g, parts))
				parts++
			}
			l, keep = append(l, found(k, p...)), append(keep, found(k, q...))
		}
		n := 1 + r.Intn(8)
		seen := map[int]int{}
		for s, list := range shard.Split(l, n) {
			for k, f := range list {
				if k > 0 && list[k-1].R.Seq >= f.R.Seq || len(f.R.Parts) == 0 || f.Place != keep[f.R.Seq].Place {
					t.Fatalf("P18.1: shard %d: %+v", s, list)
				}
				ahead := -1
				for m, p := range f.R.Parts {
					i := p.Entries[0].Index
					if shard.Of(p.Group, n) != s || i <= ahead {
						t.Fatalf("P18.2: shard %d has %+v", s, p)
					}
					seen[i]++
					ahead = i
					p.Entries[0].Data = "changed"
					_ = append(p.Entries, api.Entry{Data: "changed"})
					f.R.Parts[m].Group = 99
				}
			}
		}
		if len(seen) != parts || !alike(l, keep) {
			t.Fatalf("P18.2: %d parts of %d", len(seen), parts)
		}
		for i, k := range seen {
			if k != 1 {
				t.Fatalf("P18.2: part %d goes to %d", i, k)
			}
		}
	}
}
