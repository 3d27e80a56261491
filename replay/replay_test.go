package replay_test

import (
	"math"
	"math/rand"
	"slices"
	"testing"

	"lade/api"
	"lade/ledger"
	"lade/replay"
	"lade/shard"
)

func add(g int, at ...int) api.Part {
	p := api.Part{Group: g, Kind: api.KAppend}
	for _, i := range at {
		p.Entries = append(p.Entries, api.Entry{Index: i, Term: 1, Data: "d"})
	}
	return p
}

func found(seq int, l ...api.Part) api.Found {
	return api.Found{R: api.Record{Seq: seq, Parts: l}, Place: api.Place{Segment: 1 + seq/4, At: 10 * seq}}
}

// some: four records; of two shards 0 has three, 1 two.
func some() []api.Found {
	return []api.Found{found(1, add(0, 1), add(1, 1)), found(2, add(2, 1)), found(3, add(1, 2)), found(4, add(0, 2, 3), api.Part{Group: 2, Kind: api.KDestroy})}
}

// shards does for each of n shards the first done[i] of its records.
func shards(l []api.Found, n int, done []int) []*ledger.Ledger {
	var all []*ledger.Ledger
	for i, own := range shard.Split(l, n) {
		g := ledger.New()
		for _, f := range own[:done[i]] {
			g.Do(f.R.Parts, f.Place)
		}
		all = append(all, g)
	}
	return all
}

func alike(a, b []*ledger.Ledger) bool { return slices.EqualFunc(a, b, ledger.Same) }

// P19.1: step by step.
func TestStep(t *testing.T) {
	r := replay.New(some(), 2)
	done := []int{0, 0}
	has := []int{3, 2}
	for k, i := range []int{0, -1, 2, 1, math.MinInt, 1, 1, math.MaxInt, 0, 1, 0, 0} {
		ok := i >= 0 && i < 2 && done[i] < has[i]
		if ok {
			done[i]++
		}
		if got := r.Step(i); got != ok {
			t.Errorf("P19.1: step %d, of %d: %v", k, i, got)
		}
		if r.Left() != 5-done[0]-done[1] || !alike(r.Ledgers(), shards(some(), 2, done)) {
			t.Errorf("P19.1: behind step %d: %d left", k, r.Left())
		}
	}
	if r.Left() != 0 {
		t.Errorf("P19.1: %d left", r.Left())
	}
}

// P19.1: of no records, and how many shards.
func TestNew(t *testing.T) {
	for n, want := range map[int]int{-3: 1, 0: 1, 1: 1, 5: 5, 64: 64, 65: 64, math.MaxInt: 64} {
		r := replay.New(nil, n)
		if r.Left() != 0 || len(r.Ledgers()) != want || r.Step(0) {
			t.Errorf("P19.1: %d shards of %d, %d left", len(r.Ledgers()), n, r.Left())
		}
		r.Run([]uint8{0, 1, 255})
		if !alike(r.Ledgers(), replay.New(nil, n).Ledgers()) {
			t.Errorf("P19.1: something is done of no records")
		}
	}
}

// P19.1: what is handed in is not kept.
func TestMemory(t *testing.T) {
	l := some()
	r := replay.New(l, 2)
	l[0].R.Parts[0].Entries[0].Data = "changed"
	l[1].Place.At, l[3].R.Parts[0].Group = 7, 9
	r.Ledgers()[0] = nil
	r.Run(nil)
	if !alike(r.Ledgers(), shards(some(), 2, []int{3, 2})) {
		t.Error("P19.1: memory is shared")
	}
}

// P19.1, P19.2: whatever schedule: all of it is done, and it is the same.
func TestRun(t *testing.T) {
	r := rand.New(rand.NewSource(1))
	for range 100 {
		var l []api.Found
		for k := range r.Intn(30) {
			var p []api.Part
			for range 1 + r.Intn(4) {
				g, i := r.Intn(7), 1+r.Intn(6)
				p = append(p, []api.Part{add(g, i), add(g, i, i+1), {Group: g, Kind: api.KHard, Hard: api.Hard{Term: k}}, {Group: g, Kind: api.KSnap, Index: i, Term: 1}, {Group: g, Kind: api.KDestroy}}[r.Intn(5)])
			}
			l = append(l, found(k, p...))
		}
		whole := ledger.New()
		for _, f := range l {
			whole.Do(f.R.Parts, f.Place)
		}
		for _, n := range []int{1, 2, 3, 64} {
			var all []int
			for _, own := range shard.Split(l, n) {
				all = append(all, len(own))
			}
			want := shards(l, n, all)
			for range 5 {
				schedule := make([]uint8, r.Intn(60))
				r.Read(schedule)
				p := replay.New(l, n)
				p.Step(r.Intn(n))
				if p.Run(schedule); p.Left() != 0 || !alike(p.Ledgers(), want) {
					t.Fatalf("P19.2: %d shards, schedule %v", n, schedule)
				}
			}
			if n == 1 && !ledger.Same(want[0], whole) {
				t.Fatal("P19.2: one shard does it all")
			}
		}
	}
}

// P19.1: a schedule's steps are done in its order: two shards that go by turns are seen on their way.
func TestTurns(t *testing.T) {
	for _, c := range []struct {
		schedule []uint8
		done     []int
	}{{[]uint8{0}, []int{1, 0}}, {[]uint8{1, 3}, []int{0, 2}}, {[]uint8{255, 254}, []int{1, 1}}, {[]uint8{1, 1, 1, 0}, []int{1, 2}}} {
		r := replay.New(some(), 2)
		for _, s := range c.schedule {
			r.Step(int(s) % 2)
		}
		if !alike(r.Ledgers(), shards(some(), 2, c.done)) {
			t.Errorf("P19.1: schedule %v", c.schedule)
		}
		if r.Run(c.schedule); r.Left() != 0 || !alike(r.Ledgers(), shards(some(), 2, []int{3, 2})) {
			t.Errorf("P19.1: schedule %v, then the rest", c.schedule)
		}
	}
}
