package live_test

import (
	"math"
	"math/rand"
	"slices"
	"testing"

	"lade/api"
	"lade/live"
)

func spot(g, i, segment, at int) api.Spot {
	return api.Spot{Group: g, Index: i, Place: api.Place{Segment: segment, At: at}}
}

// some: in segment 1 five spots of three records, in 3 one, in 4 two of one record.
func some() []api.Spot {
	return []api.Spot{spot(1, -1, 1, 16), spot(1, 0, 3, 16), spot(1, 4, 1, 90), spot(1, 5, 1, 16), spot(2, 1, 4, 16), spot(2, 2, 4, 16), spot(2, 3, 1, 40), spot(2, 4, 1, 90)}
}

// P15.1, P15.2: what is in a segment.
func TestSome(t *testing.T) {
	for segment, want := range map[int]struct {
		in      []int // which of some
		records int
	}{1: {[]int{0, 2, 3, 6, 7}, 3}, 3: {[]int{1}, 1}, 4: {[]int{4, 5}, 1}, 2: {}, 0: {}, -1: {}, math.MaxInt: {}} {
		var in []api.Spot
		for _, k := range want.in {
			in = append(in, some()[k])
		}
		if got := live.In(some(), segment); !slices.Equal(got, in) {
			t.Errorf("P15.1: In(%d): %v", segment, got)
		}
		if got := live.Count(some(), segment); got != len(in) {
			t.Errorf("P15.1: Count(%d): %d", segment, got)
		}
		if got := live.Records(some(), segment); got != want.records {
			t.Errorf("P15.1: Records(%d): %d", segment, got)
		}
	}
	if got := live.Counts(some(), []int{4, 1, 2, 1, -1, 3}); !slices.Equal(got, []int{2, 5, 0, 5, 0, 1}) {
		t.Errorf("P15.1: Counts: %v", got)
	}
	if len(live.Counts(some(), nil)) != 0 || !slices.Equal(live.Counts(nil, []int{1, 0}), []int{0, 0}) {
		t.Error("P15.1: Counts of none")
	}
	if len(live.In(nil, 1)) != 0 || live.Count(nil, 1) != 0 || live.Records(nil, 1) != 0 {
		t.Error("P15.1: of no spots")
	}
	if got := live.Records([]api.Spot{spot(1, 1, 0, 0), spot(1, 2, 0, -5), spot(1, 2, 0, 0)}, 0); got != 2 {
		t.Errorf("P15.1: unlike Places: %d", got)
	}
}

// P15.1: whatever spots; nothing that is handed in is changed or shared.
func TestWhatever(t *testing.T) {
	r := rand.New(rand.NewSource(1))
	for range 200 {
		var l []api.Spot
		for range r.Intn(30) {
			l = append(l, spot(r.Intn(3), r.Intn(3), r.Intn(4), r.Intn(3)))
		}
		before := slices.Clone(l)
		all := 0
		for segment, n := range live.Counts(l, []int{0, 1, 2, 3}) {
			in := live.In(l, segment)
			places := map[api.Place]int{}
			for k := range in {
				places[in[k].Place]++
				in[k].Group = 99
			}
			_ = append(in, spot(9, 9, 9, 9))
			if n != len(in) || n != live.Count(l, segment) || live.Records(l, segment) != len(places) {
				t.Fatalf("P15.1: segment %d of %v", segment, before)
			}
			all += n
		}
		if all != len(l) || !slices.Equal(l, before) {
			t.Fatalf("P15.1: %v", before)
		}
	}
}
