package victim_test

import (
	"math/rand"
	"slices"
	"testing"

	"lade/api"
	"lade/live"
	"lade/victim"
)

// spots lists one in each of those segments.
func spots(segments ...int) []api.Spot {
	var l []api.Spot
	for i, s := range segments {
		l = append(l, api.Spot{Group: 1, Index: i, Place: api.Place{Segment: s}})
	}
	return l
}

// P16.1, P16.2: the oldest sealed one goes; the active one never does.
func TestPick(t *testing.T) {
	for _, c := range []struct {
		segments []int
		first    int
		sealed   []int
	}{{nil, 0, nil}, {[]int{5}, 0, nil}, {[]int{5, 6}, 5, []int{5}}, {[]int{1, 2, 9}, 1, []int{1, 2}}, {[]int{0, 7}, 0, []int{0}}} {
		if got, ok := victim.Pick(c.segments); got != c.first || ok != (len(c.sealed) > 0) {
			t.Errorf("P16.1: Pick of %v: %d, %v", c.segments, got, ok)
		}
		if got := victim.Sealed(c.segments); !slices.Equal(got, c.sealed) {
			t.Errorf("P16.1: Sealed of %v: %v", c.segments, got)
		}
	}
	handed := []int{1, 2, 3, 4}
	got := victim.Sealed(handed)
	got[0] = 9
	_ = append(got, 9)
	if !slices.Equal(handed, []int{1, 2, 3, 4}) {
		t.Errorf("P16.1: memory is shared: %v", handed)
	}
}

// P16.1: how many rounds.
func TestRounds(t *testing.T) {
	four := []int{2, 3, 5, 8}
	for i, c := range []struct {
		segments []int
		l        []api.Spot
		want     int
	}{
		{nil, nil, 0}, {nil, spots(1), 0}, {[]int{1}, spots(1), 0}, {four, nil, 0}, {four, spots(8), 0}, {four, spots(1, 4, 9), 0},
		{four, spots(2), 1}, {four, spots(3), 2}, {four, spots(5), 3}, {four, spots(2, 2, 8), 1}, {four, spots(3, 2, 3), 2}, {four, spots(5, 2), 3}, {four, spots(2, 3, 5, 8), 3},
	} {
		if got := victim.Rounds(c.segments, c.l); got != c.want {
			t.Errorf("P16.1: row %d: %d, not %d", i, got, c.want)
		}
	}
	r := rand.New(rand.NewSource(1))
	for range 500 {
		var segments, where []int
		for s := range r.Intn(7) {
			segments = append(segments, 2*s+1)
		}
		for range r.Intn(4) {
			where = append(where, r.Intn(14))
		}
		want := 0
		for i, s := range victim.Sealed(segments) {
			if live.Count(spots(where...), s) != 0 {
				want = i + 1
			}
		}
		if got := victim.Rounds(segments, spots(where...)); got != want {
			t.Fatalf("P16.1: %v, %v: %d, not %d", segments, where, got, want)
		}
	}
}
