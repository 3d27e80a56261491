package join_test

import (
	"math/rand"
	"slices"
	"testing"

	"lade/api"
	"lade/group"
	"lade/join"
	"lade/ledger"
	"lade/replay"
)

func entries(at ...int) []api.Entry {
	var l []api.Entry
	for _, i := range at {
		l = append(l, api.Entry{Index: i, Term: 1 + i%3, Data: "d"})
	}
	return l
}

func add(g int, at ...int) api.Part {
	return api.Part{Group: g, Kind: api.KAppend, Entries: entries(at...)}
}

func hard(g, t int) api.Part { return api.Part{Group: g, Kind: api.KHard, Hard: api.Hard{Term: t}} }

func compact(g, i, t int) api.Part {
	return api.Part{Group: g, Kind: api.KCompact, Index: i, Term: t}
}

func at(n int) api.Place { return api.Place{Segment: n, At: 100 * n} }

// does tells a ledger behind the parts, the k-th of them at at(from + k).
func does(from int, parts ...api.Part) *ledger.Ledger {
	g := ledger.New()
	for k, p := range parts {
		g.Do([]api.Part{p}, at(from+k))
	}
	return g
}

// P20.1: all of their groups, and where they lie.
func TestOf(t *testing.T) {
	a := does(1, add(0, 1, 2, 3), hard(0, 4), compact(0, 1, 0), add(8, 7))
	b := does(11, compact(5, 9, 0), add(5, 10, 11, 12, 13, 14, 15), add(5, 16, 17), add(5, 30), hard(5, 0), hard(999, 6))
	c := does(21, add(0, 1), hard(5, 9), add(7, 1))
	whole := does(1, add(0, 1, 2, 3), hard(0, 4), compact(0, 1, 0), add(8, 7))
	for k, p := range []api.Part{compact(5, 9, 0), add(5, 10, 11, 12, 13, 14, 15), add(5, 16, 17), add(5, 30), hard(5, 0), hard(999, 6)} {
		whole.Do([]api.Part{p}, at(11+k))
	}
	for i, l := range [][]*ledger.Ledger{{a, b}, {b, a}, {a, ledger.New(), b}, {ledger.New(), b, a}, {a, b, a}} {
		if got := join.Of(l); !ledger.Same(got, whole) {
			t.Errorf("P20.1: joined %d: %+v, %v", i, got.Groups(), got.Spots())
		}
		if join.Apart(l) != (i < 4) {
			t.Errorf("P20.1: Apart of %d", i)
		}
	}
	whole.Do([]api.Part{add(7, 1)}, at(23))
	if got := join.Of([]*ledger.Ledger{a, b, c}); !ledger.Same(got, whole) {
		t.Errorf("P20.1: of a group that is in two: %+v", got.Groups())
	}
	got := join.Of([]*ledger.Ledger{c, a})
	if g, _ := got.Get(0); !group.Same(g, api.Group{First: 1, Entries: entries(1)}) {
		t.Errorf("P20.1: of a group that is in two the first one's: %+v", g)
	}
	if join.Apart([]*ledger.Ledger{a, c}) || join.Apart([]*ledger.Ledger{b, ledger.New(), c}) || !join.Apart(nil) || !join.Apart([]*ledger.Ledger{c}) {
		t.Error("P20.1: Apart")
	}
	if none := join.Of(nil); len(none.Groups()) != 0 || !ledger.Same(none, ledger.New()) {
		t.Error("P20.1: of none")
	}
}

// P20.1: what is done to it is done to no other one, and what is done to others isn't done to it.
func TestApartForGood(t *testing.T) {
	a, b := does(1, add(0, 1, 2), hard(1, 1)), does(5, add(2, 1, 2), hard(3, 1))
	keepA, keepB := a.Copy(), b.Copy()
	all := join.Of([]*ledger.Ledger{a, b})
	keep := all.Copy()
	for id := range 4 {
		all.Do([]api.Part{add(id, 2, 3), compact(id, 2, 0), hard(id, 9)}, at(9))
	}
	if !ledger.Same(a, keepA) || !ledger.Same(b, keepB) {
		t.Error("P20.1: what was done to it is done to others")
	}
	all = keep.Copy()
	again := join.Of([]*ledger.Ledger{a, b})
	for id := range 4 {
		a.Do([]api.Part{add(id, 1), hard(id, 8)}, at(9))
		b.Do([]api.Part{add(id, 1), hard(id, 8)}, at(9))
	}
	if !ledger.Same(again, keep) {
		t.Error("P20.1: what was done to others is done to it")
	}
}

// P20.2: together they are as one: records that shards replayed.
func TestAsOne(t *testing.T) {
	r := rand.New(rand.NewSource(1))
	for range 100 {
		var l []api.Found
		for k := range r.Intn(40) {
			f := api.Found{R: api.Record{Seq: k + 1}, Place: at(k)}
			for range 1 + r.Intn(4) {
				g, i := r.Intn(9), 1+r.Intn(20)
				f.R.Parts = append(f.R.Parts, []api.Part{add(g, i), add(g, i, i+1, i+2, i+3, i+4, i+5), hard(g, i%2), compact(g, i, 0), {Group: g, Kind: api.KSnap, Index: i, Term: 1}, {Group: g, Kind: api.KDestroy}, {Group: g, Kind: api.KForward, Entries: entries(i, i+2, i+3)}, {Group: g, Kind: api.KForward, Mark: true, Head: true, Index: i, Term: 2}}[r.Intn(8)])
			}
			l = append(l, f)
		}
		one := replay.New(l, 1)
		one.Run(nil)
		for _, n := range []int{1, 2, 3, 7, 64} {
			p := replay.New(l, n)
			p.Run(nil)
			all := join.Of(p.Ledgers())
			if !ledger.Same(all, one.Ledgers()[0]) || !join.Apart(p.Ledgers()) {
				t.Fatalf("P20.2: %d shards: %+v", n, all.Groups())
			}
			backwards := p.Ledgers()
			slices.Reverse(backwards)
			if !ledger.Same(join.Of(backwards), all) {
				t.Fatalf("P20.2: %d shards, the other way round", n)
			}
		}
	}
}
