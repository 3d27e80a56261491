package tail_test

import (
	"math"
	"testing"

	"lade/api"
	"lade/tail"
)

// P21.1, P21.3: a torn end of the last segment goes; all else that is spoilt is told.
func TestJudge(t *testing.T) {
	for _, at := range []int{math.MinInt, -1, 0, 15, 16, 17, 100000, math.MaxInt} {
		for _, last := range []bool{false, true} {
			for _, class := range []int{api.Whole, api.End, api.Torn, api.Bad, 0, 5, -1, math.MaxInt, math.MinInt} {
				want, e := 0, api.ErrCorrupt
				if class == api.End || (class == api.Torn || class == api.Bad) && last && at >= 16 {
					want, e = at, api.OK
				}
				if got, ge := tail.Judge(last, at, class); got != want || ge != e {
					t.Errorf("P21.1: Judge(%v, %d, %d): %d, %v, not %d, %v", last, at, class, got, ge, want, e)
				}
			}
		}
	}
}

func seqs(l ...int) []api.Found {
	var all []api.Found
	for _, n := range l {
		all = append(all, api.Found{R: api.Record{Seq: n}})
	}
	return all
}

// P21.2: one behind the other.
func TestSeqs(t *testing.T) {
	const peta = 1 << 50
	for i, c := range []struct {
		l    []api.Found
		from int
		want bool
	}{
		{nil, 0, true}, {nil, 7, true}, {seqs(1), 0, true}, {seqs(9), 0, true}, {seqs(9), 9, true}, {seqs(9), 8, false}, {seqs(9), 10, false}, {seqs(9), -1, false},
		{seqs(1, 2, 3), 0, true}, {seqs(4, 5, 6), 4, true}, {seqs(4, 5, 6), 1, false}, {seqs(4, 5, 7), 4, false}, {seqs(4, 5, 7), 0, false}, {seqs(4, 6, 7), 0, false},
		{seqs(4, 5, 5), 0, false}, {seqs(4, 4), 0, false}, {seqs(4, 3), 0, false}, {seqs(1, 2, 3, 4, 5, 6, 7, 9), 1, false}, {seqs(peta-1, peta), 0, true}, {seqs(peta-1, peta), peta - 1, true},
	} {
		if got := tail.Seqs(c.l, c.from); got != c.want {
			t.Errorf("P21.2: row %d: %v", i, got)
		}
	}
}
