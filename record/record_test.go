package record_test

import (
	"math"
	"math/rand"
	"strings"
	"testing"

	"lade/api"
	"lade/code"
	"lade/frame"
	"lade/part"
	"lade/record"
)

const peta = 1 << 50

func entry(i int) api.Entry { return api.Entry{Index: i, Term: 1, Data: strings.Repeat("e", i%41)} }

func add(g, i int) api.Part {
	return api.Part{Group: g, Kind: api.KAppend, Entries: []api.Entry{entry(i)}}
}

func again(g, i int) api.Part {
	return api.Part{Group: g, Kind: api.KForward, Entries: []api.Entry{entry(i)}}
}

func gone(g int) api.Part { return api.Part{Group: g, Kind: api.KDestroy} }

// most: a part of as many bytes as may be.
func most(kind int) api.Part {
	p := api.Part{Group: 999, Kind: kind}
	for i := range 6 {
		p.Entries = append(p.Entries, api.Entry{Index: 1<<40 - 5 + i, Term: 1 << 40, Data: strings.Repeat("x", 40)})
	}
	if kind == api.KForward {
		p.Mark, p.Head, p.Index, p.Term, p.Hard = true, true, 1<<40, 1<<40, api.Hard{Term: 1 << 40, Vote: 1000, Commit: 1 << 40}
	}
	return p
}

func good() []api.Record {
	return []api.Record{
		{Seq: 1, Parts: []api.Part{gone(0)}},
		{Seq: peta, Parts: []api.Part{add(1, 1)}},
		{Seq: 300, Parts: []api.Part{add(1, 1), gone(1), {Group: 2, Kind: api.KHard}, {Group: 3, Kind: api.KSnap, Index: 1, Term: 1}}},
		{Seq: 2, Parts: []api.Part{again(1, 5)}},
		{Seq: 2, Parts: []api.Part{again(1, 5), again(1, 6), again(2, 1), again(0, 1)}},
		{Seq: peta, Parts: []api.Part{most(api.KForward), most(api.KForward), most(api.KForward), most(api.KForward)}},
		{Seq: peta, Parts: []api.Part{most(api.KAppend), most(api.KAppend), most(api.KAppend), most(api.KAppend)}},
	}
}

func bad() []api.Record {
	return []api.Record{
		{},
		{Seq: 1},
		{Parts: []api.Part{gone(1)}},
		{Seq: -1, Parts: []api.Part{gone(1)}},
		{Seq: peta + 1, Parts: []api.Part{gone(1)}},
		{Seq: math.MaxInt, Parts: []api.Part{gone(1)}},
		{Seq: math.MinInt, Parts: []api.Part{gone(1)}},
		{Seq: 1, Parts: []api.Part{gone(1), gone(2), gone(3), gone(4), gone(5)}},
		{Seq: 1, Parts: []api.Part{gone(1000)}},
		{Seq: 1, Parts: []api.Part{gone(1), gone(2), gone(-1)}},
		{Seq: 1, Parts: []api.Part{{}}},
		{Seq: 1, Parts: []api.Part{add(1, 1), again(1, 2)}},
		{Seq: 1, Parts: []api.Part{again(1, 2), gone(1)}},
		{Seq: 1, Parts: []api.Part{again(1, 2), again(1, 3), add(1, 4)}},
	}
}

// P5.1: what is well-formed.
func TestIs(t *testing.T) {
	for i, r := range good() {
		if !record.Is(r) {
			t.Errorf("P5.1: good record %d", i)
		}
	}
	for i, r := range bad() {
		if record.Is(r) {
			t.Errorf("P5.1: bad record %d", i)
		}
		if b, e := record.Bytes(r); b != "" || e != api.ErrForm || record.Size(r) != 0 {
			t.Errorf("P5.2: bad record %d: %q, %v, %d", i, b, e, record.Size(r))
		}
	}
}

// P5.1: alike.
func TestSame(t *testing.T) {
	all := append(good(), bad()...)
	for i, a := range all {
		for k, b := range all {
			if record.Same(a, b) != (i == k) {
				t.Errorf("P5.1: records %d and %d", i, k)
			}
		}
		b := api.Record{Seq: a.Seq, Parts: append([]api.Part{}, a.Parts...)}
		if !record.Same(a, b) {
			t.Errorf("P5.1: record %d isn't like itself", i)
		}
		if len(b.Parts) > 0 {
			b.Parts[len(b.Parts)-1].Group++
			if record.Same(a, b) {
				t.Errorf("P5.1: record %d: another group", i)
			}
		}
		b = api.Record{Seq: a.Seq + 1, Parts: a.Parts}
		if record.Same(a, b) {
			t.Errorf("P5.1: record %d: another Seq", i)
		}
	}
}

// P5.2, P5.3: the bytes, and what is read of them.
func TestBytes(t *testing.T) {
	for i, r := range good() {
		body := code.Put(r.Seq) + code.Put(len(r.Parts))
		for _, p := range r.Parts {
			b, _ := part.Bytes(p)
			body += b
		}
		want, _ := frame.Wrap(body)
		got, e := record.Bytes(r)
		if got != want || e != api.OK || record.Size(r) != len(want) {
			t.Errorf("P5.2: record %d: %x, %v, %d", i, got, e, record.Size(r))
		}
		for _, behind := range []string{"", "\x00", got} {
			if back, n, class := record.Read(got + behind); !record.Same(back, r) || n != len(got) || class != api.Whole {
				t.Errorf("P5.2: record %d: %+v, %d, %d", i, back, n, class)
			}
		}
		for k := range len(got) {
			class := api.Torn
			if k == 0 {
				class = api.End
			}
			if back, n, c := record.Read(got[:k]); !record.Same(back, api.Record{}) || n != 0 || c != class {
				t.Errorf("P5.3: record %d, %d bytes: %+v, %d, %d", i, k, back, n, c)
			}
		}
	}
}

// P5.2: whole frames that don't hold just a record.
func TestReadBad(t *testing.T) {
	one, _ := part.Bytes(gone(1))
	app, _ := part.Bytes(add(1, 1))
	fwd, _ := part.Bytes(again(1, 2))
	for i, body := range []string{
		"\x00",
		"\x01",
		"\x80\x00\x01" + one,
		"\x01\x80\x00" + one,
		code.Put(0) + code.Put(1) + one,
		code.Put(peta+1) + code.Put(1) + one,
		code.Put(1) + code.Put(0),
		code.Put(1) + code.Put(5) + one + one + one + one + one,
		code.Put(1) + code.Put(math.MaxInt) + one,
		code.Put(1) + code.Put(2) + one,
		code.Put(1) + code.Put(1) + one + "\x00",
		code.Put(1) + code.Put(1) + one + one,
		code.Put(1) + code.Put(1) + one[:1],
		code.Put(1) + code.Put(1) + "\x01\x07",
		code.Put(1) + code.Put(2) + app + fwd,
		code.Put(1) + code.Put(2) + fwd + app,
		"\xff",
	} {
		s, _ := frame.Wrap(body)
		if r, n, class := record.Read(s); !record.Same(r, api.Record{}) || n != 0 || class != api.Bad {
			t.Errorf("P5.2: row %d: %+v, %d, %d", i, r, n, class)
		}
	}
	s, _ := record.Bytes(good()[0])
	if _, n, class := record.Read(s[:len(s)-1] + "\x00"); n != 0 || class != api.Bad {
		t.Errorf("P5.2: another sum: %d, %d", n, class)
	}
}

// P5.3, P40.5: bits that are flipped within 32 in a row are seen.
func TestFlipped(t *testing.T) {
	r := rand.New(rand.NewSource(1))
	for _, a := range good() {
		s, _ := record.Bytes(a)
		for range 300 {
			b, at := []byte(s), r.Intn(8*len(s))
			mask := r.Uint32() | 1
			for k := range 32 {
				if mask>>k&1 == 1 && at+k < 8*len(b) {
					b[(at+k)/8] ^= 1 << ((at + k) % 8)
				}
			}
			if _, n, class := record.Read(string(b)); class == api.Whole || n != 0 {
				t.Fatalf("P5.3: flipped at %d by %x", at, mask)
			}
		}
	}
}

// Two answers share nothing; what is handed in stays.
func TestMemory(t *testing.T) {
	for i, r := range good() {
		s, _ := record.Bytes(r)
		first, _, _ := record.Read(s)
		second, _, _ := record.Read(s)
		for k := range first.Parts {
			for m := range first.Parts[k].Entries {
				first.Parts[k].Entries[m].Data = "changed"
			}
			_ = append(first.Parts[k].Entries, entry(1))
			first.Parts[k] = gone(9)
		}
		if !record.Same(second, r) {
			t.Errorf("P5.2: record %d: two answers share memory", i)
		}
	}
}
