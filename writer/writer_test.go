package writer_test

import (
	"math"
	"math/rand"
	"slices"
	"strings"
	"testing"

	"lade/api"
	"lade/disk"
	"lade/head"
	"lade/sheet"
	"lade/writer"
)

const most = 2084 // bytes that may be written at once

func read(t *testing.T, d *disk.Disk, id int) string {
	t.Helper()
	s, e := d.Read(head.Name(id))
	if e != 0 {
		t.Fatalf("segment %d: %v", id, e)
	}
	return s
}

func made(t *testing.T, d *disk.Disk, limit int) *writer.Writer {
	t.Helper()
	w, e := writer.Make(d, limit)
	if e != 0 {
		t.Fatalf("P22.1: Make: %v", e)
	}
	return w
}

// is holds what the writer tells against what it should, and the sheet.
func is(t *testing.T, what string, w *writer.Writer, d *disk.Disk, size int, segments ...int) {
	t.Helper()
	if w.Size() != size || !slices.Equal(w.Segments(), segments) {
		t.Errorf("%s: %d bytes, segments %v; not %d, %v", what, w.Size(), w.Segments(), size, segments)
	}
	if l, e := sheet.Load(d); e != 0 || !slices.Equal(l, segments) {
		t.Errorf("%s: the sheet: %v, %v", what, l, e)
	}
	if n := len(read(t, d, segments[len(segments)-1])); n != size {
		t.Errorf("%s: %d bytes in the file, not %d", what, n, size)
	}
}

// P22.1: a first segment.
func TestMake(t *testing.T) {
	for limit, want := range map[int]int{0: 2100, -1: 2100, math.MinInt: 2100, 2099: 2100, 2100: 2100, 2101: 2101, 100000: 100000, 100001: 100000, math.MaxInt: 100000} {
		d := disk.New(1000)
		d.Create(head.Name(1))
		d.Append(head.Name(1), "what was there")
		d.Create(head.Name(2))
		w := made(t, d, limit)
		is(t, "P22.1: Make", w, d, 16, 1)
		if w.Limit() != want || read(t, d, 1) != head.Bytes(1) {
			t.Errorf("P22.1: Make: limit %d", w.Limit())
		}
		if d.Crash(0); read(t, d, 1) != head.Bytes(1) {
			t.Error("P22.1: Make: the head isn't kept")
		}
		if w, e := writer.On(d, limit, []int{1}); e != 0 || w.Limit() != want {
			t.Errorf("P22.1: On: limit, %v", e)
		}
	}
	for room := range 22 {
		d := disk.New(room)
		if w, e := writer.Make(d, 0); w != nil || e != api.ErrFull || d.Used() != 0 {
			t.Errorf("P22.1: room for %d: %v, %d bytes", room, e, d.Used())
		}
	}
	for n := range 7 {
		d := disk.New(1000)
		d.Limit(n)
		if w, e := writer.Make(d, 0); w != nil || e != api.ErrPower {
			t.Errorf("P22.1: power for %d steps: %v", n, e)
		}
	}
}

// P22.1: going on.
func TestOn(t *testing.T) {
	d := disk.New(10000)
	w := made(t, d, 0)
	w.Write("abc")
	for _, l := range [][]int{nil, {0}, {2, 1}, {1, 1}, {100000000}} {
		if w, e := writer.On(d, 0, l); w != nil || e != api.ErrForm {
			t.Errorf("P22.1: On %v: %v", l, e)
		}
	}
	if w, e := writer.On(d, 0, []int{1, 2}); w != nil || e != api.ErrFile {
		t.Errorf("P22.1: On without its file: %v", e)
	}
	handed := []int{1}
	on, e := writer.On(d, 0, handed)
	if e != 0 {
		t.Fatal(e)
	}
	handed[0] = 7
	is(t, "P22.1: On", on, d, 19, 1)
	on.Segments()[0] = 9
	is(t, "P22.1: On", on, d, 19, 1)
	if at, e := on.Write("de"); at != (api.Place{Segment: 1, At: 19}) || e != 0 {
		t.Errorf("P22.2: Write: %v, %v", at, e)
	}
	d.Limit(0)
	if w, e := writer.On(d, 0, []int{1}); w != nil || e != api.ErrPower {
		t.Errorf("P22.1: On without power: %v", e)
	}
	if w, e := writer.On(d, 0, nil); w != nil || e != api.ErrForm {
		t.Errorf("P22.1: On none, without power: %v", e)
	}
}

// P22.2: what may be written, and when a segment is begun.
func TestWrite(t *testing.T) {
	d := disk.New(100000)
	w := made(t, d, 2200)
	for _, b := range []string{"", strings.Repeat("x", most+1)} {
		if at, e := w.Write(b); at != (api.Place{}) || e != api.ErrForm {
			t.Errorf("P22.2: Write of %d bytes: %v", len(b), e)
		}
	}
	is(t, "P22.2: nothing is written", w, d, 16, 1)
	for i, c := range []struct{ n, segment, at int }{{most, 1, 16}, {100, 1, 2100}, {1, 2, 16}, {most, 2, 17}, {99, 2, 2101}, {1, 3, 16}, {most, 3, 17}, {100, 4, 16}, {most, 4, 116}, {most, 5, 16}} {
		steps := d.Steps()
		b := strings.Repeat(string(rune('a'+i)), c.n)
		at, e := w.Write(b)
		if at != (api.Place{Segment: c.segment, At: c.at}) || e != 0 {
			t.Errorf("P22.2: write %d: %v, %v", i, at, e)
		}
		if s := read(t, d, c.segment); s[c.at:] != b || len(s) > w.Limit() || w.Size() != len(s) {
			t.Errorf("P22.2: write %d: %d bytes", i, len(s))
		}
		if begun := c.at == 16 && i > 0; begun != (d.Steps() > steps+1) {
			t.Errorf("P22.2: write %d: %d steps", i, d.Steps()-steps)
		}
	}
	is(t, "P22.2: Write", w, d, 2100, 1, 2, 3, 4, 5)
	for _, f := range d.All() {
		if id, ok := head.ID(f.Name); ok && (id < 5 && f.Kept != len(f.B) || id == 5 && f.Kept != 16 || !strings.HasPrefix(f.B, head.Bytes(id))) {
			t.Errorf("P22.2: %s: %d bytes kept", f.Name, f.Kept)
		}
	}
	if e := w.Sync(); e != 0 {
		t.Error(e)
	}
	if d.Crash(0); len(read(t, d, 5)) != 2100 {
		t.Error("P22.2: what was synced isn't kept")
	}
}

// P22.2: a file that stands where a segment is to be is made anew.
func TestLeftBehind(t *testing.T) {
	d := disk.New(100000)
	w := made(t, d, 0)
	w.Write("a")
	d.Create(head.Name(2))
	d.Append(head.Name(2), "left behind")
	d.Create("sheet.new")
	d.Append("sheet.new", "left behind")
	if at, e := w.Write(strings.Repeat("x", most)); at != (api.Place{Segment: 2, At: 16}) || e != 0 {
		t.Errorf("P22.2: %v, %v", at, e)
	}
	is(t, "P22.2: made anew", w, d, 2100, 1, 2)
}

// P22.2: a small active segment takes what is written, whatever its size.
func TestSmall(t *testing.T) {
	d := disk.New(100000)
	w := made(t, d, 0)
	w.Write("a")
	d.Cut(head.Name(1), 3)
	w, _ = writer.On(d, 0, []int{1})
	if at, e := w.Write(strings.Repeat("x", most)); at != (api.Place{Segment: 1, At: 3}) || e != 0 {
		t.Errorf("P22.2: %v, %v", at, e)
	}
	d.Append(head.Name(1), strings.Repeat("y", 5000))
	w, _ = writer.On(d, 0, []int{1})
	if at, e := w.Write("b"); at != (api.Place{Segment: 2, At: 16}) || e != 0 {
		t.Errorf("P22.2: behind a long one: %v, %v", at, e)
	}
}

// P22.2: as many segments as may be; no number above the last one.
func TestMaxSheet(t *testing.T) {
	d := disk.New(1000000)
	w := made(t, d, 0)
	b := strings.Repeat("x", 2000)
	for i := range 200 {
		if at, e := w.Write(b); at.Segment != i+1 || e != 0 {
			t.Fatalf("P22.2: write %d: %v, %v", i, at, e)
		}
	}
	before := d.All()
	if at, e := w.Write(b); at != (api.Place{}) || e != api.ErrFull || !slices.Equal(before, d.All()) {
		t.Errorf("P22.2: one more: %v, %v", at, e)
	}
	if at, e := w.Write("small"); at != (api.Place{Segment: 200, At: 2016}) || e != 0 {
		t.Errorf("P22.2: what still goes in: %v, %v", at, e)
	}
	if id, e := w.Drop(); id != 1 || e != 0 {
		t.Errorf("P22.3: %d, %v", id, e)
	}
	if at, e := w.Write(b); at.Segment != 201 || e != 0 {
		t.Errorf("P22.2: behind Drop: %v, %v", at, e)
	}
	d = disk.Of(100000, []api.File{{Name: head.Name(99999998), B: head.Bytes(99999998) + "abc"}})
	w, _ = writer.On(d, 0, []int{99999998})
	if at, e := w.Write(strings.Repeat("x", most)); at != (api.Place{Segment: 99999999, At: 16}) || e != 0 {
		t.Errorf("P22.2: the last number: %v, %v", at, e)
	}
	d = disk.Of(100000, []api.File{{Name: head.Name(99999999), B: head.Bytes(99999999) + "abc"}})
	w, _ = writer.On(d, 0, []int{99999999})
	before = d.All()
	if at, e := w.Write(strings.Repeat("x", most)); at != (api.Place{}) || e != api.ErrFull || !slices.Equal(before, d.All()) {
		t.Errorf("P22.2: no number is left: %v, %v", at, e)
	}
}

// P22.2: what is refused for want of room writes nothing, and takes none.
func TestNoRoom(t *testing.T) {
	b := strings.Repeat("x", 2000)
	for room := 2022; room < 2022+2*2040; room++ {
		d := disk.New(room)
		w, e := writer.Make(d, 2100)
		if e != 0 {
			t.Fatal(e)
		}
		w.Write(b)
		used, segments := d.Used(), w.Segments()
		at, e := w.Write(b)
		if e == 0 {
			if at.Segment != 2 {
				t.Fatalf("P22.2: room for %d: %v", room, at)
			}
			return
		}
		begun := len(w.Segments()) > len(segments)
		if e != api.ErrFull || at != (api.Place{}) || begun && w.Size() != 16 || !begun && d.Used() != used || d.Used() > room {
			t.Fatalf("P22.2: room for %d: %v, %v, %d bytes, not %d", room, at, e, d.Used(), used)
		}
		is(t, "P22.2: without room", w, d, w.Size(), w.Segments()...)
		for _, f := range d.All() {
			if id, ok := head.ID(f.Name); ok && !slices.Contains(w.Segments(), id) {
				t.Fatalf("P22.2: room for %d: %s is left behind", room, f.Name)
			}
		}
	}
	t.Error("P22.2: there was never room")
}

// P22.2: what is refused where no segment is to be begun.
func TestRefused(t *testing.T) {
	d := disk.New(60)
	w := made(t, d, 0)
	if at, e := w.Write(strings.Repeat("x", 39)); at != (api.Place{}) || e != api.ErrFull {
		t.Errorf("P22.2: without room: %v, %v", at, e)
	}
	is(t, "P22.2: without room", w, d, 16, 1)
	d.Limit(0)
	if at, e := w.Write("x"); at != (api.Place{}) || e != api.ErrPower || w.Size() != 16 {
		t.Errorf("P22.2: without power: %v, %v", at, e)
	}
	if e := w.Sync(); e != api.ErrPower {
		t.Errorf("P22.2: Sync without power: %v", e)
	}
	d.Crash(0)
	if at, e := w.Write(strings.Repeat("x", 38)); at != (api.Place{Segment: 1, At: 16}) || e != 0 {
		t.Errorf("P22.2: with just room: %v, %v", at, e)
	}
	is(t, "P22.2: with just room", w, d, 54, 1)
	d.Remove(head.Name(1))
	if e := w.Sync(); e != api.ErrFile {
		t.Errorf("P22.2: Sync without its file: %v", e)
	}
}

// P22.3: the first one goes.
func TestDrop(t *testing.T) {
	d := disk.New(100000)
	w := made(t, d, 0)
	if id, e := w.Drop(); id != 0 || e != api.ErrNone {
		t.Errorf("P22.3: of one: %d, %v", id, e)
	}
	for range 3 {
		w.Write(strings.Repeat("x", most))
	}
	if id, e := w.Drop(); id != 1 || e != 0 {
		t.Errorf("P22.3: %d, %v", id, e)
	}
	is(t, "P22.3: Drop", w, d, 2100, 2, 3)
	if _, e := d.Read(head.Name(1)); e != api.ErrFile {
		t.Errorf("P22.3: its file: %v", e)
	}
	w.Sync()
	for n := range 6 { // create, append, sync, rename, remove
		c := d.Copy()
		v, _ := writer.On(c, 0, []int{2, 3})
		c.Limit(n)
		id, e := v.Drop()
		if e != 0 && (e != api.ErrPower || id != 0) || (e == 0) != (n == 5) {
			t.Errorf("P22.3: power for %d steps: %d, %v", n, id, e)
		}
		c.Crash(0)
		want := []int{2, 3}
		if n >= 4 {
			want = []int{3} // the sheet is without it, though its file may be there
		}
		is(t, "P22.3: power", v, c, 2100, want...)
		if _, e := c.Read(head.Name(2)); (e == api.ErrFile) != (n == 5) {
			t.Errorf("P22.3: power for %d steps: its file: %v", n, e)
		}
	}
	c := d.Copy()
	v, _ := writer.On(c, 0, []int{2, 3})
	c.Limit(4)
	v.Drop()
	if e := v.Sync(); e != api.ErrPower {
		t.Error(e)
	}
	c.Limit(100) // the power is on again: what was left goes with the next one
	v.Write(strings.Repeat("x", most))
	c.Create(head.Name(7))
	c.Create("other")
	if id, e := v.Drop(); id != 3 || e != 0 || !slices.Equal(names(c), []string{"other", "seg-00000004", "sheet"}) {
		t.Errorf("P22.3: what was left: %d, %v, %v", id, e, names(c))
	}
	w, _ = writer.On(d, 0, []int{2, 3})
	d.Remove(head.Name(2))
	if id, e := w.Drop(); id != 0 || e != api.ErrFile || !slices.Equal(w.Segments(), []int{3}) {
		t.Errorf("P22.3: where its file isn't: %d, %v, %v", id, e, w.Segments())
	}
}

func names(d *disk.Disk) []string {
	var l []string
	for _, f := range d.All() {
		l = append(l, f.Name)
	}
	return l
}

// P22.2, P22.4: at whatever step the power goes off, the sheet tells segments that are there with their heads.
func TestPower(t *testing.T) {
	r := rand.New(rand.NewSource(1))
	for n := range 60 {
		d := disk.New(100000)
		w := made(t, d, 0)
		d.Limit(n)
		e := api.OK
		segments, size := w.Segments(), w.Size()
		var at api.Place
		for e == 0 {
			segments, size = w.Segments(), w.Size()
			b := strings.Repeat("x", 1+r.Intn(most))
			at, e = w.Write(b)
		}
		same := slices.Equal(w.Segments(), segments) && w.Size() == size
		begun := slices.Equal(w.Segments(), append(segments, segments[len(segments)-1]+1)) && w.Size() == 16
		if e != api.ErrPower || at != (api.Place{}) || !same && !begun {
			t.Fatalf("P22.2: power for %d steps: %v, %v, %v", n, e, w.Segments(), segments)
		}
		d.Crash(r.Uint64())
		l, e := sheet.Load(d)
		if e != 0 || !slices.Equal(l, w.Segments()) {
			t.Fatalf("P22.2: power for %d steps: the sheet: %v, %v", n, l, e)
		}
		for _, id := range l {
			if s := read(t, d, id); head.Check(s, id) != api.Whole || len(s) > 2100 {
				t.Fatalf("P22.4: power for %d steps: segment %d has %d bytes", n, id, len(s))
			}
		}
	}
}
