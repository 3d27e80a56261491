package reclaim_test

import (
	"math"
	"math/rand"
	"slices"
	"testing"

	"lade/api"
	"lade/disk"
	"lade/group"
	"lade/head"
	"lade/ledger"
	"lade/live"
	"lade/reclaim"
	"lade/recover"
	"lade/store"
)

const data = "forty bytes of data that count for a bit"

// add: six entries of the group, from at on.
func add(g, at int) api.Part {
	p := api.Part{Group: g, Kind: api.KAppend}
	for k := range 6 {
		p.Entries = append(p.Entries, api.Entry{Index: at + k, Term: 1, Data: data})
	}
	return p
}

func hard(g, t int) api.Part { return api.Part{Group: g, Kind: api.KHard, Hard: api.Hard{Term: t}} }

// filled: a store of n segments; of group 1 all counts, of group 2 the last write alone.
func filled(t *testing.T, room, n int) (*store.Store, *disk.Disk) {
	t.Helper()
	d := disk.New(room)
	s, e := store.Open(d, 0, 1, nil)
	if e != 0 {
		t.Fatal(e)
	}
	for i := 0; len(s.Segments()) < n; i++ {
		l := []api.Part{add(2, 1), hard(3, i)}
		if i%8 == 0 {
			l = append(l, add(1, 1+i/8*6))
		}
		if _, e := s.Write(l); e != 0 {
			t.Fatal(e)
		}
	}
	return s, d
}

// strays tells whether there is a file of a segment that isn't in the sheet.
func strays(s *store.Store, d *disk.Disk) bool {
	return slices.ContainsFunc(d.All(), func(f api.File) bool {
		id, ok := head.ID(f.Name)
		return ok && !slices.Contains(s.Segments(), id)
	})
}

func same(a, b []api.Group) bool { return slices.EqualFunc(a, b, group.Same) }

// P25.1, P25.2: the oldest one goes, no group is changed, and room is made.
func TestOnce(t *testing.T) {
	s, d := filled(t, 1000000, 4)
	groups, used := s.Groups(), d.Used()
	for want := 1; want < 4; want++ {
		id, e := reclaim.Once(s)
		if id != want || e != 0 || slices.Contains(s.Segments(), id) || !same(groups, s.Groups()) || strays(s, d) {
			t.Errorf("P25.1: %d, %v, segments %v", id, e, s.Segments())
		}
	}
	if d.Used() >= used {
		t.Errorf("P25.2: %d bytes, behind it %d", used, d.Used())
	}
	state, e := recover.Look(d, 3, nil)
	if e != 0 || !ledger.Same(state.Ledger(), s.Ledger()) {
		t.Errorf("P25.2: %v", e)
	}
	d = disk.New(1000)
	s, _ = store.Open(d, 0, 1, nil)
	before := d.All()
	if id, e := reclaim.Once(s); id != 0 || e != api.ErrNone || !slices.Equal(before, d.All()) {
		t.Errorf("P25.1: Once of a new store: %d, %v", id, e)
	}
}

// P25.1: as many as there were sealed, at most most.
func TestClean(t *testing.T) {
	for most, want := range map[int]int{math.MinInt: 0, -1: 0, 0: 0, 1: 1, 3: 3, 4: 4, 5: 4, 200: 4, math.MaxInt: 4} {
		s, d := filled(t, 1000000, 5)
		groups := s.Groups()
		n, e := reclaim.Clean(s, most)
		if n != want || e != 0 || s.Segments()[0] != want+1 || !same(groups, s.Groups()) || strays(s, d) {
			t.Errorf("P25.1: at most %d: %d, %v, %v", most, n, e, s.Segments())
		}
	}
	s, _ := store.Open(disk.New(1000), 0, 1, nil)
	if n, e := reclaim.Clean(s, 200); n != 0 || e != 0 {
		t.Errorf("P25.1: of a new store: %d, %v", n, e)
	}
	// where all counts, what goes is written anew, and what was sealed thereby stays
	s, _ = store.Open(disk.New(1000000), 0, 1, nil)
	for i := range 30 {
		s.Write([]api.Part{add(i, 1)})
	}
	groups, sealed := s.Groups(), len(s.Segments())-1
	if n, e := reclaim.Clean(s, 200); n != sealed || e != 0 || len(s.Segments()) < 2 || !same(groups, s.Groups()) {
		t.Errorf("P25.1: where all counts: %d of %d, %v", n, sealed, e)
	}
}

// uneven: three segments: a small one in which nothing counts, a great one in which all does, and the active one.
func uneven(t *testing.T) *disk.Disk {
	t.Helper()
	d := disk.New(1000000)
	s, _ := store.Open(d, 0, 1, nil)
	for i := 0; len(s.Segments()) < 2; i++ {
		s.Write([]api.Part{add(1, 1)})
	}
	s, _ = store.Open(d, 10000, 1, nil)
	for i := 0; len(s.Segments()) < 3; i++ {
		s.Write([]api.Part{add(1+i%999, 1)})
	}
	s.Sync()
	return d
}

// P25.1, P40.3: without room no group is changed, and how many went is told.
func TestNoRoom(t *testing.T) {
	whole := uneven(t)
	times := map[int]int{} // by how many went before there was no room
	for free := 0; free < 12000; free += 250 {
		d := disk.Of(whole.Used()+free, whole.All())
		s, e := store.Open(d, 3000, 1, nil)
		if e != 0 {
			t.Fatal(e)
		}
		groups := s.Groups()
		n, e := reclaim.Clean(s, 200)
		if e != 0 && e != api.ErrFull || e == 0 && n != 2 || !same(groups, s.Groups()) || strays(s, d) || s.Segments()[0] != n+1 {
			t.Fatalf("P25.1: %d free: %d, %v", free, n, e)
		}
		if e == api.ErrFull {
			times[n]++
		}
		if again, e := store.Open(d, 0, 2, nil); e != 0 || !same(groups, again.Groups()) {
			t.Fatalf("P40.3: %d free: %v", free, e)
		}
	}
	if times[0] == 0 || times[1] == 0 {
		t.Errorf("P25.1: so many went before there was no room: %v", times)
	}
}

// P25.1, P40.3: at whatever step the power goes off: the error is told, and no group is changed.
func TestPower(t *testing.T) {
	for n := range 60 {
		s, d := filled(t, 1000000, 4)
		s.Sync()
		groups := s.Groups()
		d.Limit(n)
		went, e := reclaim.Clean(s, 200)
		if e != api.ErrPower && (e != 0 || went != 3) || e != 0 && went > 2 || !same(groups, s.Groups()) {
			t.Fatalf("P25.1: power for %d steps: %d, %v", n, went, e)
		}
		gone := s.Segments()[0] - 1
		if e == 0 && gone != went || gone < went || gone > went+1 {
			t.Fatalf("P25.1: power for %d steps: %d are told, %d went", n, went, gone)
		}
		d.Crash(rand.New(rand.NewSource(int64(n))).Uint64())
		again, e := store.Open(d, 0, 2, nil)
		if e != 0 || !same(groups, again.Groups()) || strays(again, d) {
			t.Fatalf("P40.3: power for %d steps: %v", n, e)
		}
		if e == 0 && n == 59 && went != 3 {
			t.Errorf("P25.1: 59 steps are not enough: %d", went)
		}
	}
	s, d := filled(t, 1000000, 3)
	d.Limit(0)
	if id, e := reclaim.Once(s); id != 0 || e != api.ErrPower {
		t.Errorf("P25.1: Once without power: %d, %v", id, e)
	}
}

// P25.1: where nothing counts.
func TestWaste(t *testing.T) {
	s, _ := store.Open(disk.New(1000000), 0, 1, nil)
	if reclaim.Waste(s) != 0 {
		t.Error("P25.1: of a new store")
	}
	most := 0
	for i := range 60 {
		s.Write([]api.Part{add(2, 1), hard(3, i), add(4+i/40, 1)})
		if i == 50 {
			s.Write([]api.Part{{Group: 4, Kind: api.KDestroy}})
		}
		want := 0
		for _, id := range s.Segments()[:len(s.Segments())-1] {
			if live.Count(s.Ledger().Spots(), id) == 0 {
				want++
			}
		}
		if got := reclaim.Waste(s); got != want {
			t.Errorf("P25.1: Waste: %d, not %d", got, want)
		}
		most = max(most, want)
	}
	if most < 3 {
		t.Errorf("P25.1: at most %d were wasted", most)
	}
}
