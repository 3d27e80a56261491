package recover_test

import (
	"math"
	"math/rand"
	"slices"
	"strings"
	"testing"

	"lade/api"
	"lade/disk"
	"lade/group"
	"lade/head"
	"lade/ledger"
	"lade/many"
	"lade/record"
	"lade/recover"
	"lade/sheet"
	"lade/writer"
)

// filled: a disk with three segments and more, each write synced; the ledger behind each number of writes; how many records begin with the active segment.
type filled struct {
	d       *disk.Disk
	w       *writer.Writer
	behind  []*ledger.Ledger
	ends    []int // of the records of the active segment
	ahead   int   // records in the sealed ones
	m       *many.Many
	ledger  *ledger.Ledger
	nextSeq int
}

func fill(t *testing.T, from, writes int) *filled {
	t.Helper()
	f := &filled{d: disk.New(1000000), m: many.New(), ledger: ledger.New(), nextSeq: from}
	w, e := writer.Make(f.d, 0)
	if e != 0 {
		t.Fatal(e)
	}
	f.w, f.behind = w, []*ledger.Ledger{ledger.New()}
	r := rand.New(rand.NewSource(1))
	for range writes {
		f.write(t, r)
	}
	return f
}

func (f *filled) write(t *testing.T, r *rand.Rand) {
	t.Helper()
	for {
		var l []api.Part
		for range 1 + r.Intn(4) {
			id := r.Intn(6)
			g, ok := f.m.Get(id)
			if !ok {
				g = group.New(id)
			}
			at := max(1, g.First-1+r.Intn(len(g.Entries)+3))
			p := api.Part{Group: id, Kind: 1 + r.Intn(5), Index: at}
			switch p.Kind {
			case api.KAppend:
				p.Index = 0
				for k := range 1 + r.Intn(6) {
					p.Entries = append(p.Entries, api.Entry{Index: at + k, Term: 1 + r.Intn(3), Data: strings.Repeat("d", r.Intn(41))})
				}
			case api.KHard:
				p.Index, p.Hard = 0, api.Hard{Term: r.Intn(9), Vote: r.Intn(3), Commit: r.Intn(9)}
			case api.KSnap:
				p.Term = 1 + r.Intn(3)
			case api.KDestroy:
				if p.Index = 0; r.Intn(4) > 0 {
					continue
				}
			}
			l = append(l, p)
		}
		settled := f.m.Settle(l)
		if len(l) == 0 || f.m.Do(l) != 0 {
			continue
		}
		b, e := record.Bytes(api.Record{Seq: f.nextSeq, Parts: settled})
		at, we := f.w.Write(b)
		if e != 0 || we != 0 {
			t.Fatal(e, we)
		}
		if at.At == 16 {
			f.ahead, f.ends = len(f.behind)-1, nil
		}
		f.ends = append(f.ends, at.At+len(b))
		f.ledger.Do(settled, at)
		f.behind = append(f.behind, f.ledger.Copy())
		f.nextSeq++
		return
	}
}

func refused(t *testing.T, what string, d *disk.Disk, want api.Errno) {
	t.Helper()
	before, steps := d.All(), d.Steps()
	if s, e := recover.Look(d, 1, nil); s != nil || e != want {
		t.Errorf("%s: Look: %v, not %v", what, e, want)
	}
	if s, e := recover.Open(d, 3, []uint8{1, 2}); s != nil || e != want || !slices.Equal(before, d.All()) || steps != d.Steps() {
		t.Errorf("%s: Open: %v, not %v", what, e, want)
	}
}

func (f *filled) is(t *testing.T, what string, s *recover.State, records, seq int) {
	t.Helper()
	if !ledger.Same(s.Ledger(), f.behind[records]) || s.Seq() != seq || !slices.Equal(s.Segments(), f.w.Segments()) {
		t.Errorf("%s: Seq %d, not %d; segments %v; %+v", what, s.Seq(), seq, s.Segments(), s.Ledger().Groups())
	}
}

// P23.1: what was written is told; nothing is changed.
func TestLook(t *testing.T) {
	for _, from := range []int{1, 77, 1<<50 - 119} {
		f := fill(t, from, 120)
		if len(f.w.Segments()) < 3 {
			t.Fatalf("there are but %v", f.w.Segments())
		}
		before, steps := f.d.All(), f.d.Steps()
		s, e := recover.Look(f.d, 1, nil)
		if e != 0 {
			t.Fatal(e)
		}
		f.is(t, "P23.1: Look", s, 120, from+120)
		if !slices.Equal(before, f.d.All()) || steps != f.d.Steps() {
			t.Error("P23.1: Look changed something")
		}
		if !slices.EqualFunc(s.Ledger().Groups(), f.m.All(), group.Same) {
			t.Error("P23.1: other groups")
		}
		s.Segments()[0] = 9
		s.Ledger().Do([]api.Part{{Group: 1, Kind: api.KDestroy}}, api.Place{})
		f.is(t, "P23.1: memory is shared", s, 120, from+120)
	}
	d := disk.New(1000)
	writer.Make(d, 0)
	if s, e := recover.Look(d, 1, nil); e != 0 || s.Seq() != 1 || len(s.Ledger().Groups()) != 0 || !slices.Equal(s.Segments(), []int{1}) {
		t.Errorf("P23.1: no record: %v", e)
	}
}

// P23.1: what is refused.
func TestRefused(t *testing.T) {
	refused(t, "P23.1: an empty disk", disk.New(100), api.ErrFile)
	f := fill(t, 1, 60)
	other := func(change func(d *disk.Disk)) *disk.Disk {
		d := f.d.Copy()
		change(d)
		return d
	}
	last := f.w.Segments()[len(f.w.Segments())-1]
	put := func(d *disk.Disk, name, b string) {
		d.Remove(name)
		d.Create(name)
		d.Append(name, b)
	}
	flip := func(d *disk.Disk, name string, at int) {
		b, _ := d.Read(name)
		put(d, name, b[:at]+string([]byte{b[at] ^ 16})+b[at+1:])
	}
	refused(t, "P23.1: no sheet", other(func(d *disk.Disk) { d.Rename("sheet", "sheet.new") }), api.ErrFile)
	refused(t, "P23.1: another sheet", other(func(d *disk.Disk) { flip(d, "sheet", 0) }), api.ErrCorrupt)
	refused(t, "P23.1: no power", other(func(d *disk.Disk) { d.Limit(0) }), api.ErrPower)
	for _, id := range f.w.Segments() {
		name := head.Name(id)
		b, _ := f.d.Read(name)
		refused(t, "P23.1: a file lacks", other(func(d *disk.Disk) { d.Remove(name) }), api.ErrCorrupt)
		refused(t, "P23.1: a spoilt head", other(func(d *disk.Disk) { flip(d, name, 7) }), api.ErrCorrupt)
		refused(t, "P23.1: a torn head", other(func(d *disk.Disk) { d.Cut(name, 15) }), api.ErrCorrupt)
		refused(t, "P23.1: no head", other(func(d *disk.Disk) { d.Cut(name, 0) }), api.ErrCorrupt)
		if id == last {
			continue
		}
		refused(t, "P23.1: a spoilt record of a sealed segment", other(func(d *disk.Disk) { flip(d, name, len(b)/2) }), api.ErrCorrupt)
		refused(t, "P23.1: a torn sealed segment", other(func(d *disk.Disk) { d.Cut(name, len(b)-1) }), api.ErrCorrupt)
		refused(t, "P23.1: something behind a sealed segment", other(func(d *disk.Disk) { d.Append(name, "x") }), api.ErrCorrupt)
		refused(t, "P23.1: a record lacks", other(func(d *disk.Disk) { d.Cut(name, 16) }), api.ErrCorrupt)
	}
	refused(t, "P23.1: segments the other way round", other(func(d *disk.Disk) {
		one, _ := d.Read(head.Name(1))
		two, _ := d.Read(head.Name(2))
		put(d, head.Name(1), head.Bytes(1)+two[16:])
		put(d, head.Name(2), head.Bytes(2)+one[16:])
	}), api.ErrCorrupt)
}

// P23.1: holes.
func TestDense(t *testing.T) {
	d := disk.New(10000)
	w, _ := writer.Make(d, 0)
	for k, p := range []api.Part{{Group: 1, Kind: api.KAppend, Entries: []api.Entry{{Index: 2, Term: 1}}}, {Group: 1, Kind: api.KForward, Entries: []api.Entry{{Index: 1, Term: 1}}}} {
		b, _ := record.Bytes(api.Record{Seq: k + 5, Parts: []api.Part{p}})
		w.Write(b)
		if k == 0 {
			refused(t, "P23.1: a hole", d, api.ErrCorrupt)
		}
	}
	if s, e := recover.Look(d, 2, nil); e != 0 || s.Seq() != 7 || !s.Ledger().Dense() {
		t.Errorf("P23.1: without a hole: %v", e)
	}
}

// P23.1, P40.4: however many shards, in whatever order of steps.
func TestShards(t *testing.T) {
	f := fill(t, 3, 70)
	r := rand.New(rand.NewSource(2))
	for _, n := range []int{math.MinInt, 0, 1, 2, 3, 5, 64, 65, math.MaxInt} {
		for range 3 {
			schedule := make([]uint8, r.Intn(100))
			r.Read(schedule)
			s, e := recover.Look(f.d, n, schedule)
			if e != 0 {
				t.Fatalf("P40.4: %d shards: %v", n, e)
			}
			f.is(t, "P40.4: shards", s, 70, 73)
			s, e = recover.Open(f.d.Copy(), n, schedule)
			if e != 0 {
				t.Fatalf("P40.4: %d shards: %v", n, e)
			}
			f.is(t, "P40.4: shards", s, 70, 73)
		}
	}
}

// P23.3: the last segment, torn or spoilt at whatever byte: what is told is what was written up to there; Open cuts it.
func TestTorn(t *testing.T) {
	f := fill(t, 1, 56)
	last := f.w.Segments()[len(f.w.Segments())-1]
	b, _ := f.d.Read(head.Name(last))
	for k := 16; k < len(b); k += 1 + k%3 {
		n, end := 0, 16
		for n < len(f.ends) && f.ends[n] <= k {
			end = f.ends[n]
			n++
		}
		for _, spoil := range []string{b[:k], b[:k] + string([]byte{b[k] ^ 1}) + b[k+1:]} {
			d := f.d.Copy()
			d.Remove(head.Name(last))
			d.Create(head.Name(last))
			d.Append(head.Name(last), spoil)
			s, e := recover.Look(d, 2, nil)
			if e != 0 {
				t.Fatalf("P23.3: torn at %d: %v", k, e)
			}
			f.is(t, "P23.3: Look of a torn one", s, f.ahead+n, f.ahead+n+1)
			s, e = recover.Open(d, 2, nil)
			if e != 0 {
				t.Fatalf("P23.3: torn at %d: %v", k, e)
			}
			f.is(t, "P23.3: Open of a torn one", s, f.ahead+n, f.ahead+n+1)
			d.Crash(0)
			if got, _ := d.Read(head.Name(last)); got != b[:end] {
				t.Fatalf("P23.2: torn at %d: %d bytes stay, not %d", k, len(got), end)
			}
		}
	}
}

// P23.2: what Open clears away, and what it lets stand, at whatever step the power goes off.
func TestClear(t *testing.T) {
	f := fill(t, 1, 60)
	segments := f.w.Segments()
	last := segments[len(segments)-1]
	whole, _ := f.d.Read(head.Name(last))
	stay := f.d.All()
	for _, name := range []string{head.Name(last + 1), head.Name(99999999), "sheet.new"} {
		f.d.Create(name)
		f.d.Append(name, "left behind")
	}
	for _, name := range []string{"seg-1", "other", "sheet.old", "seg-00000000"} {
		f.d.Create(name)
		f.d.Sync(name)
		stay = append(stay, api.File{Name: name})
	}
	f.d.Append(head.Name(last), "a torn end")
	slices.SortFunc(stay, func(a, b api.File) int { return strings.Compare(a.Name, b.Name) })
	for i := range stay {
		if stay[i].Name == head.Name(last) {
			stay[i].Kept = len(whole)
		}
	}
	for n := range 7 { // three files to remove, one to cut, one to sync
		d := f.d.Copy()
		d.Limit(n)
		s, e := recover.Open(d, 1, nil)
		if n < 5 {
			if s != nil || e != api.ErrPower {
				t.Errorf("P23.2: power for %d steps: %v", n, e)
			}
			for _, left := range []int{0, 1, 2} {
				d.Crash(0x8080808080808080)
				d.Limit(left)
				recover.Open(d, 2, nil)
			}
			d.Crash(math.MaxUint64)
			if s, e = recover.Open(d, 1, nil); e != 0 {
				t.Fatalf("P23.2: behind a loss of power: %v", e)
			}
		}
		if e != 0 {
			t.Fatalf("P23.2: power for %d steps: %v", n, e)
		}
		f.is(t, "P23.2: Open", s, f.len(s), s.Seq())
		if n < 5 {
			continue // behind a loss of power less may be there of the last segment
		}
		if f.is(t, "P23.2: Open", s, 60, 61); !slices.Equal(d.All(), stay) {
			t.Errorf("P23.2: what stays: %v", names(d))
		}
	}
}

// len tells how many records the state has.
func (f *filled) len(s *recover.State) int { return s.Seq() - 1 }

func names(d *disk.Disk) []string {
	var l []string
	for _, f := range d.All() {
		l = append(l, f.Name)
	}
	return l
}

// P23.2: what needs no clearing is synced all the same.
func TestSynced(t *testing.T) {
	f := fill(t, 1, 10)
	steps := f.d.Steps()
	if _, e := recover.Open(f.d, 1, nil); e != 0 || f.d.Steps() != steps+1 {
		t.Errorf("P23.2: %v, %d steps", e, f.d.Steps()-steps)
	}
	f.d.Crash(0)
	s, e := recover.Look(f.d, 1, nil)
	if e != 0 {
		t.Fatal(e)
	}
	f.is(t, "P23.2: synced", s, 10, 11)
	if l, e := sheet.Load(f.d); e != 0 || !slices.Equal(l, f.w.Segments()) {
		t.Errorf("P23.2: the sheet: %v, %v", l, e)
	}
}
