package scan_test

import (
	"math"
	"math/rand"
	"testing"

	"lade/api"
	"lade/head"
	"lade/record"
	"lade/scan"
)

// rec: a record, and its bytes.
func rec(seq, n int) (api.Record, string) {
	r := api.Record{Seq: seq, Parts: []api.Part{{Group: n, Kind: api.KAppend, Entries: []api.Entry{{Index: 1, Term: 1, Data: "entry"[:n%6]}}}}}
	s, _ := record.Bytes(r)
	return r, s
}

// segment lays n records in a segment: what stands in it, and where each ends (the head, too).
func segment(id, n int) (string, []api.Found, []int) {
	s, ends := head.Bytes(id), []int{16}
	var l []api.Found
	for i := range n {
		r, b := rec(100+i, i)
		l = append(l, api.Found{R: r, Place: api.Place{Segment: id, At: len(s)}})
		s += b
		ends = append(ends, len(s))
	}
	return s, l, ends
}

func expect(t *testing.T, what string, got, want []api.Found, at, wantAt, class, wantClass int) {
	t.Helper()
	ok := len(got) == len(want) && at == wantAt && class == wantClass
	for i := 0; ok && i < len(got); i++ {
		ok = record.Same(got[i].R, want[i].R) && got[i].Place == want[i].Place
	}
	if !ok {
		t.Errorf("%s: %d records, %d, class %d; not %d, %d, %d", what, len(got), at, class, len(want), wantAt, wantClass)
	}
}

// P11.1, P11.2: what was written is found.
func TestAll(t *testing.T) {
	for _, id := range []int{1, 7, 99999999} {
		for _, n := range []int{0, 1, 2, 9} {
			s, want, ends := segment(id, n)
			l, at, class := scan.All(s, id)
			expect(t, "P11.1: All", l, want, at, ends[n], class, api.End)
			for most := range n + 3 {
				l, at, class := scan.First(s, id, most)
				k, c := min(most, n), api.Whole
				if most >= n {
					c = api.End
				}
				expect(t, "P11.1: First", l, want[:k], at, ends[k], class, c)
			}
			for _, most := range []int{-1, math.MinInt} {
				c := api.Whole
				if n == 0 {
					c = api.End
				}
				l, at, class := scan.First(s, id, most)
				expect(t, "P11.1: First, held to 0", l, nil, at, 16, class, c)
			}
		}
	}
	s, want, ends := segment(1, 2)
	for i := range want {
		want[i].Place.Segment = -3
	}
	l, at, class := scan.All(s, -3) // its head is that of 1
	expect(t, "P11.1: a number below 1", l, want, at, ends[2], class, api.End)
}

// P11.1: a segment without its head holds nothing.
func TestHead(t *testing.T) {
	s, _, _ := segment(7, 3)
	for k := range 16 {
		l, at, class := scan.All(s[:k], 7)
		expect(t, "P11.1: a part of the head", l, nil, at, 0, class, api.Torn)
		b := []byte(s)
		b[k] ^= 4
		l, at, class = scan.All(string(b), 7)
		expect(t, "P11.1: a spoilt head", l, nil, at, 0, class, api.Bad)
		l, at, class = scan.First(string(b), 7, 0)
		expect(t, "P11.1: a spoilt head", l, nil, at, 0, class, api.Bad)
	}
	l, at, class := scan.All(s, 8)
	expect(t, "P11.1: another segment's head", l, nil, at, 0, class, api.Bad)
}

// P11.2: it is found up to where it ends, or is damaged.
func TestDamaged(t *testing.T) {
	s, want, ends := segment(3, 4)
	r := rand.New(rand.NewSource(1))
	for k := 16; k <= len(s); k++ {
		n := 0
		for n < 4 && ends[n+1] <= k {
			n++
		}
		class := api.Torn
		if k == ends[n] {
			class = api.End
		}
		l, at, got := scan.All(s[:k], 3)
		expect(t, "P11.2: a beginning", l, want[:n], at, ends[n], got, class)
		if k == len(s) {
			break
		}
		b := []byte(s)
		b[k] ^= 1 << r.Intn(8)
		l, at, got = scan.All(string(b), 3)
		expect(t, "P11.2: a spoilt byte", l, want[:n], at, ends[n], got, api.Bad)
		for most := range 5 {
			m, c := min(n, most), api.Whole
			if most >= n {
				c = api.Bad
			}
			l, at, got = scan.First(string(b), 3, most)
			expect(t, "P11.2: a spoilt byte", l, want[:m], at, ends[m], got, c)
		}
	}
	l, at, class := scan.All(s+"behind", 3)
	expect(t, "P11.2: something behind", l, want, at, len(s), class, api.Torn)
	l, at, class = scan.All(s+"behind it all", 3)
	expect(t, "P11.2: something behind", l, want, at, len(s), class, api.Bad)
}

// No two answers share memory.
func TestMemory(t *testing.T) {
	s, want, ends := segment(3, 4)
	first, _, _ := scan.All(s, 3)
	second, at, class := scan.All(s, 3)
	for i := range first {
		for k := range first[i].R.Parts {
			first[i].R.Parts[k].Group = 0
			for m := range first[i].R.Parts[k].Entries {
				first[i].R.Parts[k].Entries[m].Data = "changed"
			}
		}
	}
	expect(t, "memory", second, want, at, ends[4], class, api.End)
}
