package store_test

import (
	"fmt"
	"math"
	"math/rand"
	"slices"
	"strings"
	"testing"

	"lade/api"
	"lade/disk"
	"lade/group"
	"lade/head"
	"lade/ledger"
	"lade/live"
	"lade/many"
	"lade/record"
	"lade/recover"
	"lade/store"
	"lade/writer"
)

func entries(term int, data string, at ...int) []api.Entry {
	var l []api.Entry
	for _, i := range at {
		l = append(l, api.Entry{Index: i, Term: term, Data: data})
	}
	return l
}

func add(g, term int, at ...int) api.Part {
	return api.Part{Group: g, Kind: api.KAppend, Entries: entries(term, "d", at...)}
}

func hard(g, t int) api.Part { return api.Part{Group: g, Kind: api.KHard, Hard: api.Hard{Term: t}} }

func compact(g, i int) api.Part { return api.Part{Group: g, Kind: api.KCompact, Index: i} }

func snap(g, i, t int) api.Part { return api.Part{Group: g, Kind: api.KSnap, Index: i, Term: t} }

func destroy(g int) api.Part { return api.Part{Group: g, Kind: api.KDestroy} }

func parts(l ...api.Part) []api.Part { return l }

// anyParts tells parts most of which can be done to m, one by one.
func anyParts(r *rand.Rand, m *many.Many) []api.Part {
	var l []api.Part
	for range 1 + r.Intn(4) {
		id := r.Intn(5)
		g, ok := m.Get(id)
		if !ok {
			g = group.New(id)
		}
		at, term := max(1, g.First-1+r.Intn(len(g.Entries)+4)), 1+r.Intn(3)
		end := group.Last(g) + 1
		p := []api.Part{add(id, term, at), add(id, term, end, end+1, end+2), add(id, term, end), hard(id, at), compact(id, at), compact(id, (at+end)/2), snap(id, at, term), destroy(id)}[r.Intn(8)]
		if p.Kind == api.KDestroy && r.Intn(3) > 0 {
			continue
		}
		for k := range p.Entries {
			p.Entries[k].Data = strings.Repeat("x", r.Intn(41))
		}
		l = append(l, p)
	}
	return l
}

func open(t *testing.T, d *disk.Disk, limit, shards int) *store.Store {
	t.Helper()
	s, e := store.Open(d, limit, shards, []uint8{3, 1, 2})
	if e != 0 {
		t.Fatalf("P24.1: Open: %v", e)
	}
	return s
}

// tells holds all that the store tells of its groups against the model.
func tells(t *testing.T, what string, s *store.Store, m *many.Many) {
	t.Helper()
	all := m.All()
	if !slices.EqualFunc(s.Groups(), all, group.Same) || !slices.EqualFunc(s.Ledger().Groups(), all, group.Same) {
		t.Fatalf("%s: Groups: %+v, not %+v", what, s.Groups(), all)
	}
	for id := -1; id < 7; id++ {
		g, ok := m.Get(id)
		first, last, e := s.Bounds(id)
		h, he := s.Hard(id)
		if !ok {
			n, te := s.Term(id, 1)
			l, le := s.Entries(id, 9, 1)
			if e != api.ErrGroup || he != api.ErrGroup || te != api.ErrGroup || le != api.ErrGroup || first != 0 || last != 0 || h != (api.Hard{}) || len(l) != 0 || n != 0 {
				t.Fatalf("%s: group %d isn't there: %v, %v, %v, %v", what, id, e, he, te, le)
			}
			continue
		}
		if first != g.First || last != group.Last(g) || e != 0 || h != g.Hard || he != 0 {
			t.Fatalf("%s: group %d: %d, %d, %v, %v, %v", what, id, first, last, h, e, he)
		}
		for i := first - 3; i <= last+2; i++ {
			n, e := s.Term(id, i)
			if wn, we := group.Term(g, i); n != wn || e != we {
				t.Fatalf("%s: group %d, term %d: %d, %v", what, id, i, n, e)
			}
			l, e := s.Entries(id, i, last+1)
			if wl, we := group.Entries(g, i, last+1); !slices.Equal(l, wl) || e != we {
				t.Fatalf("%s: group %d, entries from %d: %v, %v", what, id, i, l, e)
			}
		}
	}
}

// P24.1: beginning, and going on.
func TestOpen(t *testing.T) {
	d := disk.New(10000)
	for _, name := range []string{head.Name(1), head.Name(2), head.Name(5), "sheet.new", "other"} {
		d.Create(name)
		d.Append(name, "x")
	}
	s := open(t, d, 0, 1)
	var names []string
	for _, f := range d.All() {
		names = append(names, f.Name)
	}
	if !slices.Equal(names, []string{"other", "seg-00000001", "sheet"}) || s.Seq() != 1 || len(s.Groups()) != 0 || !slices.Equal(s.Segments(), []int{1}) {
		t.Errorf("P24.1: a new store: %v, %d, %v", names, s.Seq(), s.Segments())
	}
	for i := range 5 {
		if n, e := s.Write(parts(hard(i, i))); n != i+1 || e != 0 || s.Seq() != i+2 {
			t.Errorf("P24.2: write %d: %d, %v", i, n, e)
		}
	}
	for _, n := range []int{0, 1, 2, 64, 1000, -5} {
		again := open(t, d, 0, n)
		if again.Seq() != 6 || !ledger.Same(again.Ledger(), s.Ledger()) || !slices.Equal(again.Segments(), s.Segments()) {
			t.Errorf("P24.1: opened with %d shards: %d", n, again.Seq())
		}
	}
	for n := range 8 {
		c := disk.New(100)
		c.Create(head.Name(4))
		c.Limit(n) // one file to remove, a head in three steps, a sheet in four
		if s, e := store.Open(c, 0, 1, nil); s != nil || e != api.ErrPower {
			t.Errorf("P24.1: power for %d steps: %v", n, e)
		}
		c.Crash(math.MaxUint64)
		if s := open(t, c, 0, 1); s.Seq() != 1 || len(c.All()) != 2 {
			t.Errorf("P24.5: power for %d steps: %v", n, c.All())
		}
	}
	if s, e := store.Open(disk.New(21), 0, 1, nil); s != nil || e != api.ErrFull {
		t.Errorf("P24.1: no room: %v", e)
	}
	spoilt := d.Copy()
	spoilt.Cut("sheet", 3)
	if s, e := store.Open(spoilt, 0, 1, nil); s != nil || e != api.ErrCorrupt {
		t.Errorf("P24.1: a spoilt sheet: %v", e)
	}
	spoilt = d.Copy()
	spoilt.Remove(head.Name(1))
	if s, e := store.Open(spoilt, 0, 1, nil); s != nil || e != api.ErrCorrupt {
		t.Errorf("P24.1: a segment lacks: %v", e)
	}
}

// P24.2, P24.3: what is refused, and that then nothing is done; P24.6: each group has its own log.
func TestWrite(t *testing.T) {
	d := disk.New(100000)
	s := open(t, d, 0, 1)
	m := many.New()
	for i, l := range [][]api.Part{
		parts(add(1, 2, 1, 2, 3), hard(1, 7)), parts(add(2, 5, 1)), parts(compact(1, 2)), nil, parts(hard(1, 1), hard(1, 1), hard(1, 1), hard(1, 1), hard(1, 1)),
		parts(api.Part{}), parts(api.Part{Group: 1, Kind: api.KForward, Head: true}), parts(destroy(9)), parts(hard(1, 9), compact(9, 1)), parts(add(1, 2, 5)), parts(add(1, 2, 2)), parts(compact(1, 4)), parts(compact(1, 2)),
		parts(api.Part{Group: 1, Kind: api.KCompact, Index: 3, Term: 9}), parts(snap(1, 3, 2), add(1, 2, 4)), parts(snap(1, 4, 9)), parts(destroy(1), add(1, 4, 1)), parts(destroy(2)), parts(add(2, 2, 2)), parts(hard(3, 1), destroy(3)), parts(hard(1000, 1)),
	} {
		seq, before, groups := s.Seq(), d.All(), s.Ledger().Copy()
		want := m.Do(l)
		n, e := s.Write(l)
		if e != want || e == 0 && (n != seq || s.Seq() != seq+1) || e != 0 && (n != 0 || s.Seq() != seq || !slices.Equal(d.All(), before) || !ledger.Same(groups, s.Ledger())) {
			t.Errorf("P24.2: write %d: %d, %v, not %v", i, n, e, want)
		}
		tells(t, fmt.Sprintf("P24.3: behind write %d", i), s, m)
	}
	if n, e := s.Write(parts(compact(1, 1))); n == 0 || e != 0 {
		t.Fatal(e)
	}
	// what was written is settled: the record tells the term
	b, _ := d.Read(head.Name(1))
	p := parts(compact(1, 1))
	p[0].Term = 4
	if want, _ := record.Bytes(api.Record{Seq: s.Seq() - 1, Parts: p}); !strings.HasSuffix(b, want) {
		t.Error("P24.2: what is written isn't settled")
	}
	g := s.Groups()
	g[0].First, s.Segments()[0] = 77, 88
	l, _ := s.Entries(1, 2, 2)
	_ = append(l, api.Entry{})
	if s.Groups()[0].First == 77 || s.Segments()[0] == 88 {
		t.Error("P24.3: memory is shared")
	}
}

// P24.4: what counts is written anew, then the segment goes.
func TestForwardDrop(t *testing.T) {
	d := disk.New(100000)
	s := open(t, d, 0, 1)
	if n, e := s.Forward(); n != 0 || e != api.ErrNone {
		t.Errorf("P24.4: Forward of one segment: %d, %v", n, e)
	}
	if n, e := s.Drop(); n != 0 || e != api.ErrNone {
		t.Errorf("P24.4: Drop of one segment: %d, %v", n, e)
	}
	s.Write(parts(add(1, 1, 1, 2, 3), hard(1, 4), compact(1, 1), hard(5, 9)))
	for i := 0; len(s.Segments()) < 3; i++ {
		s.Write(parts(hard(7, i)))
	}
	if n, e := s.Drop(); n != 0 || e != api.ErrForm || len(s.Segments()) != 3 {
		t.Errorf("P24.4: Drop of what counts: %d, %v", n, e)
	}
	groups, seq := s.Groups(), s.Seq()
	n, e := s.Forward()
	if n != 1 || e != 0 || s.Seq() != seq+1 || live.Count(s.Ledger().Spots(), 1) != 0 || !slices.EqualFunc(groups, s.Groups(), group.Same) {
		t.Errorf("P24.4: Forward: %d, %v", n, e)
	}
	all := d.All()
	if f := all[2]; f.Name != head.Name(3) || f.Kept != len(f.B) {
		t.Errorf("P24.4: Forward doesn't sync: %d of %d", f.Kept, len(f.B))
	}
	s.Write(parts(hard(8, 1)))
	if id, e := s.Drop(); id != 1 || e != 0 || !slices.Equal(s.Segments(), []int{2, 3}) || !slices.EqualFunc(groups, s.Groups()[:3], group.Same) {
		t.Errorf("P24.4: Drop: %d, %v", id, e)
	}
	all = d.All()
	if f := all[1]; f.Name != head.Name(3) || f.Kept != len(f.B) || all[0].Name != head.Name(2) {
		t.Errorf("P24.4: Drop doesn't sync: %v", f.Name)
	}
	if n, e := s.Forward(); n != 0 || e != 0 { // what is in segment 2 was written over
		t.Errorf("P24.4: Forward of what doesn't count: %d, %v", n, e)
	}
	if id, e := s.Drop(); id != 2 || e != 0 {
		t.Errorf("P24.4: Drop: %d, %v", id, e)
	}
	if again := open(t, d, 0, 2); !ledger.Same(again.Ledger(), s.Ledger()) || again.Seq() != s.Seq() {
		t.Errorf("P24.4: opened anew: %+v", again.Groups())
	}
}

// P24.4: without power: what errs tells no number; where there is nothing to do, that comes first.
func TestForwardPower(t *testing.T) {
	d := disk.New(100000)
	s := open(t, d, 0, 1)
	d.Limit(0)
	if n, e := s.Forward(); n != 0 || e != api.ErrNone {
		t.Errorf("P24.4: Forward of one segment: %d, %v", n, e)
	}
	if id, e := s.Drop(); id != 0 || e != api.ErrNone {
		t.Errorf("P24.4: Drop of one segment: %d, %v", id, e)
	}
	d.Crash(0)
	for i := range 6 {
		s.Write(parts(add(i, 1, 1, 2, 3, 4, 5), hard(i, 1), add(i, 1, 6, 7), hard(i, 2)))
	}
	for i := 0; len(s.Segments()) < 2; i++ {
		s.Write(parts(hard(9, i)))
	}
	s.Sync()
	for n := range 13 {
		c := d.Copy()
		s := open(t, c, 0, 1)
		groups := s.Groups()
		c.Limit(n)
		k, e := s.Forward() // three records, a sync ahead of them and one behind
		if n < 5 && (k != 0 || e != api.ErrPower) || n >= 5 && (k != 3 || e != 0) || !slices.EqualFunc(groups, s.Groups(), group.Same) {
			t.Errorf("P24.4: power for %d steps: Forward: %d, %v", n, k, e)
		}
		if n < 5 {
			continue
		}
		id, e := s.Drop() // a sync, the sheet in four steps, the file
		if n < 11 && (id != 0 || e != api.ErrPower) || n >= 11 && (id != 1 || e != 0) || !slices.EqualFunc(groups, s.Groups(), group.Same) {
			t.Errorf("P24.4: power for %d steps: Drop: %d, %v", n, id, e)
		}
	}
}

// P24.4: without room: what was written stays, and changes no group.
func TestForwardNoRoom(t *testing.T) {
	d := disk.New(100000)
	s := open(t, d, 0, 1)
	for i := range 8 {
		s.Write(parts(add(i, 1, 1, 2, 3, 4, 5), hard(i, 1), add(i, 1, 6, 7), hard(i, 2)))
	}
	for i := 0; len(s.Segments()) < 2; i++ {
		s.Write(parts(hard(9, i)))
	}
	full, seqs := 0, map[int]int{}
	for free := 0; free < 500; free += 10 {
		c := disk.Of(d.Used()+free, d.All())
		s := open(t, c, 0, 1)
		groups, seq := s.Groups(), s.Seq()
		n, e := s.Forward()
		if e == api.ErrFull {
			full++
			seqs[s.Seq()-seq]++
			if n != 0 {
				t.Errorf("P24.4: %d free: %d beside %v", free, n, e)
			}
		} else if n != 4 || e != 0 || s.Seq() != seq+4 {
			t.Errorf("P24.4: %d free: %d, %v", free, n, e)
		}
		again := open(t, c, 0, 1)
		if !slices.EqualFunc(groups, s.Groups(), group.Same) || !ledger.Same(s.Ledger(), again.Ledger()) || again.Seq() != s.Seq() {
			t.Errorf("P24.4: %d free: what was written: %d, %d", free, s.Seq(), again.Seq())
		}
	}
	if len(seqs) != 4 || full == 50 {
		t.Errorf("P24.4: %d times there was no room; so many records were written: %v", full, seqs)
	}
}

// P24.4: one thing that lies there still is one too many.
func TestDropOne(t *testing.T) {
	for _, p := range []api.Part{hard(1, 0), hard(1, 5), add(1, 1, 1), snap(1, 1, 1)} {
		s := open(t, disk.New(100000), 0, 1)
		s.Write(parts(p))
		for i := 0; len(s.Segments()) < 2; i++ {
			s.Write(parts(hard(9, i)))
		}
		if id, e := s.Drop(); id != 0 || e != api.ErrForm || len(s.Segments()) != 2 {
			t.Errorf("P24.4: Drop of one thing: %d, %v", id, e)
		}
		s.Write(parts(destroy(1)))
		if id, e := s.Drop(); id != 1 || e != 0 {
			t.Errorf("P24.4: Drop of nothing: %d, %v", id, e)
		}
	}
}

// P24.4: many groups take many records.
func TestForwardMany(t *testing.T) {
	d := disk.New(100000)
	s := open(t, d, 0, 1)
	var at []int
	for i := range 14 {
		at = append(at, i+1)
	}
	for i := range 5 {
		s.Write(parts(add(i, 1, at[:6]...), add(i, 1, at[6:12]...), add(i, 1, at[12:]...), hard(i, 1)))
	}
	for i := 0; len(s.Segments()) < 2; i++ {
		s.Write(parts(hard(i%5, i)))
	}
	groups, seq := s.Groups(), s.Seq()
	if n, e := s.Forward(); n != 4 || e != 0 || s.Seq() != seq+4 { // three parts a group, four a record
		t.Errorf("P24.4: Forward: %d, %v", n, e)
	}
	if n, e := s.Forward(); n != 0 || e != 0 {
		t.Errorf("P24.4: Forward again: %d, %v", n, e)
	}
	if s.Drop(); !slices.EqualFunc(groups, s.Groups(), group.Same) {
		t.Error("P24.4: other groups")
	}
	if again := open(t, d, 0, 3); !ledger.Same(again.Ledger(), s.Ledger()) {
		t.Errorf("P24.4: opened anew: %+v", again.Groups())
	}
}

// P40.1, P40.3, P40.4: whatever is written, and whenever segments go, the store tells what the logs tell; so it does when it is opened anew.
func TestAgainstModel(t *testing.T) {
	r := rand.New(rand.NewSource(1))
	for round := range 12 {
		d := disk.New(1000000)
		limit := []int{0, 2100, 2500, 5000, 100000}[r.Intn(5)]
		s, m := open(t, d, limit, 1), many.New()
		for k := range 250 {
			l := anyParts(r, m)
			seq := s.Seq()
			want := m.Do(l)
			if n, e := s.Write(l); e != want || e == 0 && n != seq {
				t.Fatalf("P40.1: round %d, write %d: %d, %v, not %v", round, k, n, e, want)
			}
			switch r.Intn(12) {
			case 0:
				s.Sync()
			case 1:
				_, e := s.Forward()
				if _, de := s.Drop(); e != de || e != 0 && e != api.ErrNone {
					t.Fatalf("P40.3: %v, %v", e, de)
				}
			case 2:
				s.Forward()
			}
			if k%25 == 24 {
				tells(t, "P40.1", s, m)
				state, e := recover.Look(d, 1+r.Intn(9), []uint8{1, 4, 2})
				if e != 0 || !ledger.Same(state.Ledger(), s.Ledger()) || state.Seq() != s.Seq() {
					t.Fatalf("P40.4: %v", e)
				}
			}
			if k%60 == 59 {
				s = open(t, d, limit, 1+r.Intn(9))
				tells(t, "P40.4: opened anew", s, m)
			}
		}
		for _, f := range d.All() {
			if id, ok := head.ID(f.Name); ok && (!slices.Contains(s.Segments(), id) || len(f.B) > max(limit, 2100)) {
				t.Fatalf("P40.3: %s has %d bytes, segments %v", f.Name, len(f.B), s.Segments())
			}
		}
	}
}

// P24.5, P40.2, P40.3: at whatever step the power goes off, again and again: all groups are as they were behind some write, not ahead of the last one that was synced.
func TestPower(t *testing.T) {
	r := rand.New(rand.NewSource(1))
	for n := range 260 {
		d := disk.New(1000000)
		d.Limit(n)
		m := many.New()
		states, synced := []*many.Many{many.New()}, 0 // behind each write, and how many are kept
		for range 3 {
			run(r, d, m, &states, &synced)
			for range r.Intn(3) {
				d.Crash(r.Uint64())
				d.Limit(r.Intn(6))
				store.Open(d, 0, 1, nil)
			}
			d.Crash(r.Uint64())
			s, e := store.Open(d, 0, 1+r.Intn(4), nil)
			if e != 0 {
				t.Fatalf("P24.5: power for %d steps: %v", n, e)
			}
			got := many.Of(s.Groups())
			k := len(states) - 1
			for k >= 0 && !many.Same(states[k], got) {
				k--
			}
			if k < synced {
				t.Fatalf("P40.2: power for %d steps: behind %d writes, synced were %d of %d", n, k, synced, len(states)-1)
			}
			m, states, synced = got.Copy(), []*many.Many{got}, 0
			d.Limit(r.Intn(80))
		}
	}
}

// run writes until the power is off.
func run(r *rand.Rand, d *disk.Disk, m *many.Many, states *[]*many.Many, synced *int) {
	s, e := store.Open(d, 0, 2, nil)
	if e != 0 {
		return
	}
	for range 400 {
		l := anyParts(r, m)
		c := m.Copy()
		want := c.Do(l)
		segments := len(s.Segments())
		if _, e = s.Write(l); e == 0 && want == 0 {
			*m = *c
			*states = append(*states, c)
			if len(s.Segments()) > segments {
				*synced = len(*states) - 2
			}
		}
		if e == api.ErrPower {
			return
		}
		switch r.Intn(8) {
		case 0:
			e = s.Sync()
		case 1:
			_, e = s.Forward()
		case 2:
			_, e = s.Forward()
			if _, de := s.Drop(); e == 0 {
				e = de
			}
		default:
			continue
		}
		if e == api.ErrPower {
			return
		}
		if e == 0 {
			*synced = len(*states) - 1
		}
	}
}

// P24.2, P40.6: what is refused for want of room changes nothing; there are never more bytes than there is room for.
func TestNoRoom(t *testing.T) {
	r := rand.New(rand.NewSource(1))
	for _, room := range []int{30, 500, 2200, 2300, 4150, 4300, 6000} {
		d := disk.New(room)
		s, e := store.Open(d, 0, 1, nil)
		if e != 0 {
			t.Fatal(e)
		}
		m, full := many.New(), 0
		for range 800 {
			l := anyParts(r, m)
			c := m.Copy()
			want, seq := c.Do(l), s.Seq()
			before := s.Ledger().Copy()
			n, e := s.Write(l)
			switch {
			case e == api.ErrFull:
				full++
				if n != 0 || want != 0 || s.Seq() != seq || !ledger.Same(before, s.Ledger()) {
					t.Fatalf("P40.6: room for %d: %v", room, want)
				}
			case e != want:
				t.Fatalf("P40.6: room for %d: %v, not %v", room, e, want)
			case e == 0:
				m = c
			}
			if r.Intn(120) == 0 {
				if _, e := s.Forward(); e == 0 {
					s.Drop()
				} else if e != api.ErrNone && e != api.ErrFull {
					t.Fatalf("P24.4: room for %d: %v", room, e)
				}
			}
			if tells(t, "P40.6", s, m); d.Used() > room {
				t.Fatalf("P40.6: %d bytes, room for %d", d.Used(), room)
			}
			for _, f := range d.All() {
				if id, ok := head.ID(f.Name); ok && !slices.Contains(s.Segments(), id) {
					t.Fatalf("P40.3: room for %d: %s is left behind", room, f.Name)
				}
			}
		}
		if full == 0 {
			t.Errorf("P40.6: room for %d: there was always room", room)
		}
		tells(t, "P40.6: opened anew", open(t, d, 0, 3), m)
	}
}

// P24.2: a disk that was filled up to the last number takes no more records.
func TestLastSeq(t *testing.T) {
	d := disk.New(10000)
	w, _ := writer.Make(d, 0)
	b, _ := record.Bytes(api.Record{Seq: 1 << 50, Parts: parts(hard(1, 1))})
	w.Write(b)
	s := open(t, d, 0, 1)
	if n, e := s.Write(parts(hard(1, 2))); n != 0 || e != api.ErrForm || s.Seq() != 1<<50+1 {
		t.Errorf("P24.2: behind the last number: %d, %v", n, e)
	}
}
