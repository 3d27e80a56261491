package crc_test

import (
	hashes "hash/crc32"
	"math"
	"math/rand"
	"strings"
	"testing"

	"lade/crc"
)

// more does what P2.1 says, word by word.
func more(c uint32, b string) uint32 {
	c = ^c
	for i := range len(b) {
		c ^= uint32(b[i])
		for range 8 {
			low := c & 1
			c /= 2
			if low == 1 {
				c ^= 2197175160
			}
		}
	}
	return ^c
}

// P2.1: sums that are known.
func TestKnown(t *testing.T) {
	for b, want := range map[string]uint32{"": 0, "123456789": 3808858755, "a": 0xc1d04330, "abc": 0x364b3fb7, strings.Repeat("\x00", 32): 0x8a9136aa, strings.Repeat("\xff", 32): 0x62a8ab43} {
		if got := crc.Of(b); got != want {
			t.Errorf("P2.1: Of(%q): %d, not %d", b, got, want)
		}
	}
	for _, c := range []uint32{0, 1, 1 << 31, math.MaxUint32} {
		if got := crc.More(c, ""); got != c {
			t.Errorf("P2.1: More(%d) of nothing: %d", c, got)
		}
	}
}

// P2.1: sums of whatever bytes, from whatever sum on.
func TestAny(t *testing.T) {
	r := rand.New(rand.NewSource(1))
	table := hashes.MakeTable(hashes.Castagnoli)
	for n := range 300 {
		b := make([]byte, n)
		r.Read(b)
		c := r.Uint32()
		if got, want := crc.More(c, string(b)), more(c, string(b)); got != want {
			t.Fatalf("P2.1: More(%d, %x): %d, not %d", c, b, got, want)
		}
		if got, want := crc.Of(string(b)), hashes.Checksum(b, table); got != want {
			t.Fatalf("P2.1: Of(%x): %d, not %d", b, got, want)
		}
	}
}

// P2.2: a sum goes on wherever it was left.
func TestGoesOn(t *testing.T) {
	b := "many logs in one, one behind the other"
	for i := range len(b) + 1 {
		if got := crc.More(crc.Of(b[:i]), b[i:]); got != crc.Of(b) {
			t.Errorf("P2.2: left at %d: %d, not %d", i, got, crc.Of(b))
		}
	}
	if crc.Of(b) == crc.Of(b[1:]) || crc.Of(b) == crc.Of(b+"\x00") {
		t.Error("P2.2: other bytes, the same sum")
	}
}

func BenchmarkOf(b *testing.B) {
	s := strings.Repeat("lade", 25000)
	for b.Loop() {
		crc.Of(s)
	}
}
