package audit_test

import (
	"math/rand"
	"strings"
	"testing"

	"lade/api"
	"lade/audit"
	"lade/disk"
	"lade/group"
	"lade/head"
	"lade/ledger"
	"lade/record"
	"lade/sheet"
	"lade/store"
)

func add(g, term int, at ...int) api.Part {
	p := api.Part{Group: g, Kind: api.KAppend}
	for _, i := range at {
		p.Entries = append(p.Entries, api.Entry{Index: i, Term: term, Data: strings.Repeat("x", i%41)})
	}
	return p
}

func hard(g, t int) api.Part { return api.Part{Group: g, Kind: api.KHard, Hard: api.Hard{Term: t}} }

func snap(g, i, t int) api.Part { return api.Part{Group: g, Kind: api.KSnap, Index: i, Term: t} }

func destroy(g int) api.Part { return api.Part{Group: g, Kind: api.KDestroy} }

// P27.1: ledgers that hold, and one with holes.
func TestLedger(t *testing.T) {
	g := ledger.New()
	if !audit.Ledger(g) {
		t.Error("P27.1: a new ledger")
	}
	for i, c := range []struct {
		p  api.Part
		ok bool
	}{
		{hard(1, 0), true}, {hard(1, 2), true}, {add(2, 1, 1, 2), true}, {add(2, 1, 4), false}, {add(2, 1, 3), true}, {snap(2, 2, 1), true}, {add(3, 1, 5), false},
		{api.Part{Group: 3, Kind: api.KForward, Mark: true, Index: 4, Term: 1}, true}, {snap(4, 7, 2), true}, {add(4, 2, 9), false}, {destroy(4), true}, {destroy(9), true}, {api.Part{Group: 5, Kind: api.KCompact, Index: 3}, true},
	} {
		g.Do([]api.Part{c.p}, api.Place{Segment: 1 + i/4, At: i})
		if got := audit.Ledger(g); got != c.ok {
			t.Errorf("P27.1: behind part %d: %v", i, got)
		}
	}
}

// filled: a store with three segments, and its disk.
func filled(t *testing.T) (*store.Store, *disk.Disk) {
	t.Helper()
	d := disk.New(1000000)
	s, e := store.Open(d, 0, 1, nil)
	if e != 0 || !audit.Store(s, d) {
		t.Fatalf("P27.1: a new store: %v", e)
	}
	for i := 1; len(s.Segments()) < 3; i++ {
		if _, e := s.Write([]api.Part{add(i%3, i, 1, 2, 3), hard(3, i), snap(4, i, i)}); e != 0 {
			t.Fatal(e)
		}
	}
	return s, d
}

// P27.1: a disk that doesn't hold what the store tells.
func TestOther(t *testing.T) {
	s, d := filled(t)
	if !audit.Store(s, d) {
		t.Fatal("P27.1: a store and its disk")
	}
	more, _ := record.Bytes(api.Record{Seq: s.Seq(), Parts: []api.Part{hard(3, 9999)}})
	same, _ := record.Bytes(api.Record{Seq: s.Seq(), Parts: []api.Part{destroy(99)}})
	for i, change := range []func(d *disk.Disk){
		func(d *disk.Disk) { d.Remove("sheet") },
		func(d *disk.Disk) { d.Cut("sheet", 3) },
		func(d *disk.Disk) { d.Remove(head.Name(2)) },
		func(d *disk.Disk) { d.Cut(head.Name(3), 40) },
		func(d *disk.Disk) { d.Cut(head.Name(1), 40) },
		func(d *disk.Disk) { d.Append(head.Name(3), more) },
		func(d *disk.Disk) { d.Append(head.Name(3), same) },
		func(d *disk.Disk) { sheet.Save(d, []int{2, 3}) },
		func(d *disk.Disk) {
			d.Create(head.Name(4))
			d.Append(head.Name(4), head.Bytes(4))
			sheet.Save(d, []int{1, 2, 3, 4})
		},
		func(d *disk.Disk) { d.Limit(0) },
	} {
		c := d.Copy()
		if change(c); audit.Store(s, c) {
			t.Errorf("P27.1: change %d isn't seen", i)
		}
	}
	if audit.Store(s, disk.New(1000)) {
		t.Error("P27.1: an empty disk")
	}
	// what is behind a torn end doesn't count
	c := d.Copy()
	if c.Append(head.Name(3), "torn"); !audit.Store(s, c) {
		t.Error("P27.1: a torn end")
	}
	// another store, alike but for where things lie
	far := disk.New(1000000)
	o, _ := store.Open(far, 100000, 1, nil)
	for i := 1; o.Seq() < s.Seq(); i++ {
		o.Write([]api.Part{add(i%3, i, 1, 2, 3), hard(3, i), snap(4, i, i)})
	}
	if !audit.Store(o, far) || audit.Store(o, d) || audit.Store(s, far) {
		t.Error("P27.1: another store")
	}
}

// P27.1: a ledger that is changed behind the store's back.
func TestChanged(t *testing.T) {
	for i, p := range []api.Part{hard(3, 77), add(1, 9, 9), destroy(2), snap(0, 50, 1)} {
		s, d := filled(t)
		if s.Ledger().Do([]api.Part{p}, api.Place{Segment: 3, At: 16}); audit.Store(s, d) {
			t.Errorf("P27.1: change %d isn't seen", i)
		}
	}
	s, d := filled(t)
	s.Ledger().Do([]api.Part{hard(3, s.Seq()-1)}, api.Place{Segment: 9, At: 16})
	if audit.Store(s, d) {
		t.Error("P27.1: a spot in no segment")
	}
}

// P27.1: no record on the disk tells the number: all are gone, and the segment that was begun has nothing but its head.
func TestNoRecord(t *testing.T) {
	d := disk.New(1000000)
	s, _ := store.Open(d, 0, 1, nil)
	for b := ""; len(b) < 2040; b, _ = d.Read(head.Name(1)) {
		s.Write([]api.Part{hard(1, 7)})
	}
	s.Write([]api.Part{destroy(1)})
	room := disk.Of(d.Used()+40, d.All()) // room for another head and sheet, but not for the record
	s, _ = store.Open(room, 0, 1, nil)
	if _, e := s.Write([]api.Part{add(2, 1, 1, 2, 3, 4, 5, 6), add(3, 1, 1, 2, 3, 4, 5, 6), add(4, 1, 1, 2, 3, 4, 5, 6)}); e != api.ErrFull || len(s.Segments()) != 2 {
		t.Fatalf("there was room: %v, %v", e, s.Segments())
	}
	seq := s.Seq()
	if n, e := s.Forward(); n != 0 || e != 0 {
		t.Errorf("P27.1: Forward: %d, %v", n, e)
	}
	if id, e := s.Drop(); id != 1 || e != 0 {
		t.Errorf("P27.1: Drop: %d, %v", id, e)
	}
	if s.Seq() != seq || seq < 10 || !audit.Store(s, room) {
		t.Errorf("P27.1: without a record, Seq is %d", s.Seq())
	}
	s.Write([]api.Part{hard(1, 1)})
	if s.Seq() != seq+1 || !audit.Store(s, room) {
		t.Errorf("P27.1: with a record, Seq is %d", s.Seq())
	}
}

// P27.2: whatever comes, it holds: writes, reclaims, no room, losses of power.
func TestWhatever(t *testing.T) {
	r := rand.New(rand.NewSource(1))
	for round := range 25 {
		d := disk.New(6000 + r.Intn(10000))
		s, e := store.Open(d, 0, 1, nil)
		if e != 0 {
			t.Fatal(e)
		}
		for range 150 {
			id := r.Intn(5)
			g := group.New(id)
			for _, h := range s.Groups() {
				if h.ID == id {
					g = h
				}
			}
			at := max(1, g.First-1+r.Intn(len(g.Entries)+3))
			s.Write([]api.Part{[]api.Part{add(id, 1+r.Intn(2), at, at+1), add(id, 1, group.Last(g)+1), hard(id, at), snap(id, at, 1), {Group: id, Kind: api.KCompact, Index: at}, destroy(id)}[r.Intn(6)]})
			switch r.Intn(10) {
			case 0:
				s.Forward()
			case 1:
				if _, e := s.Forward(); e == 0 {
					s.Drop()
				}
			case 2:
				if d.Limit(r.Intn(4)); r.Intn(2) == 0 {
					s.Forward()
					s.Drop()
				}
				s.Write([]api.Part{hard(id, 1)})
				d.Crash(r.Uint64())
				if s, e = store.Open(d, 0, 1+r.Intn(3), nil); e != 0 {
					t.Fatalf("P27.2: round %d: %v", round, e)
				}
			}
			if !audit.Store(s, d) || !audit.Ledger(s.Ledger()) {
				t.Fatalf("P27.2: round %d", round)
			}
		}
	}
}
