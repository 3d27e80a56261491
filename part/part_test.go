package part_test

import (
	"math"
	"math/rand"
	"strings"
	"testing"

	"lade/api"
	"lade/code"
	"lade/part"
)

const (
	tera = 1 << 40
	vote = 1000
)

func entry(i, t int, d string) api.Entry { return api.Entry{Index: i, Term: t, Data: d} }

func run(from, n int) []api.Entry {
	var l []api.Entry
	for i := range n {
		l = append(l, entry(from+i, 1+i, strings.Repeat("d", i)))
	}
	return l
}

// good: parts that are well-formed, at the edges too.
func good() []api.Part {
	long := strings.Repeat("x", 40)
	return []api.Part{
		{Kind: api.KAppend, Entries: run(1, 1)},
		{Group: 999, Kind: api.KAppend, Entries: run(tera-5, 6)},
		{Group: 7, Kind: api.KAppend, Entries: []api.Entry{entry(300, tera, long), entry(301, 1, "")}},
		{Group: 1, Kind: api.KHard},
		{Group: 1, Kind: api.KHard, Hard: api.Hard{Term: tera, Vote: vote, Commit: tera}},
		{Group: 128, Kind: api.KHard, Hard: api.Hard{Term: 1, Vote: 2, Commit: 300}},
		{Group: 1, Kind: api.KCompact, Index: 1},
		{Group: 1, Kind: api.KCompact, Index: tera, Term: tera},
		{Group: 1, Kind: api.KSnap, Index: 1, Term: 1},
		{Group: 1, Kind: api.KSnap, Index: tera, Term: tera},
		{Group: 5, Kind: api.KDestroy},
		{Kind: api.KDestroy},
		{Group: 1, Kind: api.KForward, Entries: run(1, 6)},
		{Group: 1, Kind: api.KForward, Entries: []api.Entry{entry(1, 1, long), entry(tera, tera, long)}},
		{Group: 1, Kind: api.KForward, Mark: true, Index: 4, Term: 2},
		{Group: 1, Kind: api.KForward, Mark: true, Index: tera, Term: tera, Entries: run(3, 2)},
		{Group: 1, Kind: api.KForward, Head: true},
		{Group: 1, Kind: api.KForward, Head: true, Hard: api.Hard{Term: tera, Vote: vote, Commit: tera}, Entries: run(8, 1)},
		{Group: 999, Kind: api.KForward, Mark: true, Head: true, Index: 1, Term: 1, Hard: api.Hard{Term: 3}, Entries: run(9, 6)},
	}
}

// spoilt tells p with one thing that it may not have, in all ways.
func spoilt(p api.Part) []api.Part {
	var l []api.Part
	with := func(change func(*api.Part)) {
		q := p
		q.Entries = append([]api.Entry(nil), p.Entries...)
		change(&q)
		l = append(l, q)
	}
	for _, n := range []int{-1, 1000, math.MinInt, math.MaxInt} {
		with(func(q *api.Part) { q.Group = n })
	}
	for _, n := range []int{-1, 0, 7, 100} {
		with(func(q *api.Part) { q.Kind = n })
	}
	numbers := func(used bool, least, most int, field func(*api.Part) *int) {
		wrong := []int{-1, least - 1, most + 1, math.MinInt, math.MaxInt}
		if !used {
			wrong = []int{1, -1}
		}
		for _, n := range wrong {
			with(func(q *api.Part) { *field(q) = n })
		}
	}
	hard := p.Kind == api.KHard || p.Kind == api.KForward && p.Head
	index := p.Kind == api.KCompact || p.Kind == api.KSnap || p.Kind == api.KForward && p.Mark
	leastTerm := 1
	if p.Kind == api.KCompact {
		leastTerm = 0
	}
	numbers(hard, 0, tera, func(q *api.Part) *int { return &q.Hard.Term })
	numbers(hard, 0, vote, func(q *api.Part) *int { return &q.Hard.Vote })
	numbers(hard, 0, tera, func(q *api.Part) *int { return &q.Hard.Commit })
	numbers(index, 1, tera, func(q *api.Part) *int { return &q.Index })
	numbers(index, leastTerm, tera, func(q *api.Part) *int { return &q.Term })
	if p.Kind != api.KForward {
		with(func(q *api.Part) { q.Mark = true })
		with(func(q *api.Part) { q.Head = true })
	}
	if p.Kind != api.KForward && p.Kind != api.KAppend {
		with(func(q *api.Part) { q.Entries = run(1, 1) })
		return l
	}
	if p.Kind == api.KAppend || !p.Mark && !p.Head {
		with(func(q *api.Part) { q.Entries = nil })
	}
	with(func(q *api.Part) { q.Entries = run(1, 7) })
	for i := range p.Entries {
		for _, e := range []api.Entry{entry(0, 1, ""), entry(-1, 1, ""), entry(tera+1, 1, ""), entry(p.Entries[i].Index, 0, ""), entry(p.Entries[i].Index, tera+1, ""), entry(p.Entries[i].Index, 1, strings.Repeat("x", 41)), entry(math.MinInt, 1, "")} {
			with(func(q *api.Part) { q.Entries[i] = e })
		}
		if i > 0 {
			with(func(q *api.Part) { q.Entries[i].Index = q.Entries[i-1].Index })
			with(func(q *api.Part) { q.Entries[i].Index = q.Entries[i-1].Index - 1 })
		}
		if i > 0 && p.Kind == api.KAppend {
			with(func(q *api.Part) { q.Entries[i].Index++ })
		}
	}
	return l
}

// P4.1: what is well-formed, and what isn't.
func TestIs(t *testing.T) {
	for i, p := range good() {
		if !part.Is(p) {
			t.Errorf("P4.1: good part %d: %+v", i, p)
		}
		for _, q := range spoilt(p) {
			if part.Is(q) {
				t.Errorf("P4.1: part %d, spoilt: %+v", i, q)
			}
			if b, e := part.Bytes(q); b != "" || e != api.ErrForm {
				t.Errorf("P4.2: part %d, spoilt: %q, %v", i, b, e)
			}
		}
	}
	if part.Is(api.Part{}) {
		t.Error("P4.1: a part of no Kind")
	}
}

// P4.1: entries.
func TestIsEntry(t *testing.T) {
	long := strings.Repeat("x", 40)
	for _, e := range []api.Entry{entry(1, 1, ""), entry(tera, tera, long), entry(1, tera, "\x00")} {
		if !part.IsEntry(e) {
			t.Errorf("P4.1: %+v", e)
		}
	}
	for _, e := range []api.Entry{{}, entry(0, 1, ""), entry(1, 0, ""), entry(-1, 1, ""), entry(1, -1, ""), entry(tera+1, 1, ""), entry(1, tera+1, ""), entry(1, 1, long+"x"), entry(math.MaxInt, 1, ""), entry(1, math.MinInt, "")} {
		if part.IsEntry(e) {
			t.Errorf("P4.1: %+v is none", e)
		}
	}
}

// P4.1: alike in all parts.
func TestSame(t *testing.T) {
	all := good()
	for i, a := range all {
		for k, b := range all {
			if part.Same(a, b) != (i == k) {
				t.Errorf("P4.1: parts %d and %d", i, k)
			}
		}
		for _, b := range spoilt(a) {
			if part.Same(a, b) || part.Same(b, a) {
				t.Errorf("P4.1: %+v, %+v", a, b)
			}
		}
		b := a
		b.Entries = append([]api.Entry{}, a.Entries...)
		if !part.Same(a, b) {
			t.Errorf("P4.1: part %d isn't like itself", i)
		}
		if len(b.Entries) > 0 {
			b.Entries[len(b.Entries)-1].Data += "!"
			if part.Same(a, b) {
				t.Errorf("P4.1: part %d: other data", i)
			}
		}
	}
}

func puts(l ...int) string {
	b := ""
	for _, n := range l {
		b += code.Put(n)
	}
	return b
}

// P4.2: the bytes, by hand.
func TestBytes(t *testing.T) {
	hard := api.Hard{Term: 300, Vote: 2, Commit: 7}
	for i, c := range []struct {
		p    api.Part
		want string
	}{
		{api.Part{Group: 5, Kind: api.KDestroy}, "\x05\x05"},
		{api.Part{Group: 300, Kind: api.KAppend, Entries: []api.Entry{entry(300, 4, "ab"), entry(301, 5, "")}}, puts(300, 1, 2, 300, 4, 2) + "ab" + puts(5, 0)},
		{api.Part{Group: 1, Kind: api.KHard, Hard: hard}, puts(1, 2, 300, 2, 7)},
		{api.Part{Group: 1, Kind: api.KCompact, Index: 8}, puts(1, 3, 8, 0)},
		{api.Part{Group: 1, Kind: api.KSnap, Index: 8, Term: 9}, puts(1, 4, 8, 9)},
		{api.Part{Group: 1, Kind: api.KForward, Entries: []api.Entry{entry(3, 4, "ab"), entry(8, 5, "")}}, puts(1, 6, 0, 2, 3, 4, 2) + "ab" + puts(8, 5, 0)},
		{api.Part{Group: 1, Kind: api.KForward, Mark: true, Index: 3, Term: 4}, puts(1, 6, 1, 3, 4, 0)},
		{api.Part{Group: 1, Kind: api.KForward, Head: true, Hard: hard}, puts(1, 6, 2, 300, 2, 7, 0)},
		{api.Part{Group: 1, Kind: api.KForward, Mark: true, Head: true, Hard: hard, Index: 3, Term: 4, Entries: []api.Entry{entry(9, 1, "z")}}, puts(1, 6, 3, 3, 4, 300, 2, 7, 1, 9, 1, 1) + "z"},
	} {
		if got, e := part.Bytes(c.p); got != c.want || e != api.OK {
			t.Errorf("P4.2: row %d: %x, not %x (%v)", i, got, c.want, e)
		}
	}
}

// P4.2, P4.3: what was written is read, whatever stands behind; of a beginning bytes lack.
func TestReadBytes(t *testing.T) {
	for i, p := range good() {
		b, e := part.Bytes(p)
		if e != api.OK {
			t.Fatalf("P4.2: part %d: %v", i, e)
		}
		for _, behind := range []string{"", "\x00", "\xff\xff"} {
			if got, n, e := part.Read(b + behind); !part.Same(got, p) || n != len(b) || e != api.OK {
				t.Errorf("P4.3: part %d: %+v, %d, %v", i, got, n, e)
			}
		}
		for k := range len(b) {
			if got, n, e := part.Read(b[:k]); !part.Same(got, api.Part{}) || n != 0 || e != api.ErrShort {
				t.Errorf("P4.2: part %d, %d bytes: %+v, %d, %v", i, k, got, n, e)
			}
		}
	}
}

// P4.2: what is wrong, from the front on.
func TestReadWrong(t *testing.T) {
	large := code.Put(41)
	for i, c := range []struct {
		s string
		e api.Errno
	}{
		{"", api.ErrShort},
		{"\x80\x00", api.ErrForm},
		{"\x01\x80\x00", api.ErrForm},
		{puts(1, 0), api.ErrForm},
		{puts(1, 7), api.ErrForm},
		{puts(1, tera), api.ErrForm},
		{puts(1000), api.ErrShort}, // the group's number is asked behind all
		{puts(1000, 5), api.ErrForm},
		{puts(1000, 7), api.ErrForm},
		{puts(1, 1), api.ErrShort},
		{puts(1, 1, 7), api.ErrForm}, // at once: bytes lack, too
		{puts(1, 1, 0), api.ErrShort},
		{puts(1, 1, 0, 1), api.ErrForm},
		{puts(1, 1, 1, 0, 1, 0), api.ErrForm},
		{puts(1, 1, 1, 0, 1), api.ErrShort},
		{puts(1, 1, 1, 1, 0, 0), api.ErrForm},
		{puts(1, 1, 1, 1, 0) + large, api.ErrLarge},
		{puts(1, 1, 2, 1, 0, 0, 1) + large, api.ErrLarge},
		{puts(1, 1, 1, tera+1, 1, 0), api.ErrForm},
		{puts(1, 1, 2, tera, 1, 0, 1, 0), api.ErrForm},
		{puts(1, 1, 2, math.MaxInt, 1, 0, 1, 0), api.ErrForm},
		{puts(1, 2, tera+1, 0), api.ErrShort},
		{puts(1, 2, tera+1, 0, 0), api.ErrForm},
		{puts(1, 2, 0, 1001, 0), api.ErrForm},
		{puts(1, 3, 0, 0), api.ErrForm},
		{puts(1, 3, 1, tera+1), api.ErrForm},
		{puts(1, 4, 1, 0), api.ErrForm},
		{puts(1, 6), api.ErrShort},
		{puts(1, 6, 4), api.ErrForm},
		{puts(1, 6, 0, 7), api.ErrForm},
		{puts(1, 6, 0, 0), api.ErrForm},
		{puts(1, 6, 1, 0, 1), api.ErrShort},
		{puts(1, 6, 1, 0, 1, 0), api.ErrForm},
		{puts(1, 6, 1, 1, 0, 0), api.ErrForm},
		{puts(1, 6, 2, 0, 1001, 0, 7), api.ErrForm},
		{puts(1, 6, 2, 0, 1001, 0, 1), api.ErrShort},
		{puts(1, 6, 0, 1, 1, 1) + large, api.ErrLarge},
		{puts(1, 6, 0, 2, 5, 1, 0, 5, 1, 0), api.ErrForm},
		{puts(1, 6, 0, 2, 5, 1, 0, 4, 1, 0), api.ErrForm},
	} {
		if p, n, e := part.Read(c.s); e != c.e || n != 0 || !part.Same(p, api.Part{}) {
			t.Errorf("P4.2: row %d (%x): %+v, %d, %v, not %v", i, c.s, p, n, e, c.e)
		}
	}
}

// P4.2: whatever bytes: what is read is what Bytes tells.
func TestReadWhatever(t *testing.T) {
	r := rand.New(rand.NewSource(1))
	read := 0
	for range 50000 {
		b := make([]byte, r.Intn(14))
		for i := range b {
			b[i] = []byte{0, 1, 2, 3, 4, 5, 6, 7, 40, 128, 255}[r.Intn(11)]
		}
		p, n, e := part.Read(string(b))
		if e != api.OK {
			continue
		}
		read++
		if again, e := part.Bytes(p); e != api.OK || again != string(b[:n]) {
			t.Fatalf("P4.2: %x is read as %+v", b, p)
		}
	}
	if read == 0 {
		t.Error("nothing was read")
	}
}

// Nothing that is handed in is changed, and nothing that is answered is shared.
func TestMemory(t *testing.T) {
	for i, p := range good() {
		room := append(make([]api.Entry, 0, 10), p.Entries...)
		p.Entries = room
		b, _ := part.Bytes(p)
		first, _, _ := part.Read(b)
		second, _, _ := part.Read(b)
		for k := range first.Entries {
			first.Entries[k] = entry(1, 1, "changed")
		}
		_ = append(first.Entries, entry(1, 1, "changed"))
		if !part.Same(second, p) {
			t.Errorf("P4.2: part %d: two answers share memory", i)
		}
		for _, e := range room[len(room):cap(room)] {
			if e != (api.Entry{}) {
				t.Errorf("P4.2: part %d: spare room is changed", i)
			}
		}
	}
}
