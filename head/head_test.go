package head_test

import (
	"fmt"
	"math"
	"testing"

	"lade/api"
	"lade/code"
	"lade/crc"
	"lade/head"
)

const last = 99999999

// held: what numbers are held to.
var held = map[int]int{0: 1, -1: 1, math.MinInt: 1, 1: 1, 2: 2, 7: 7, 10: 10, 12345678: 12345678, 90000000: 90000000, last - 1: last - 1, last: last, last + 1: last, math.MaxInt: last}

// P10.1: names, and whose they are.
func TestName(t *testing.T) {
	if head.Name(7) != "seg-00000007" {
		t.Errorf("P10.1: Name of 7: %s", head.Name(7))
	}
	for id, n := range held {
		if got := head.Name(id); got != fmt.Sprintf("seg-%08d", n) {
			t.Errorf("P10.1: Name of %d: %s", id, got)
		}
		if got, ok := head.ID(head.Name(id)); got != n || !ok {
			t.Errorf("P10.1: ID: %d, %v, not %d", got, ok, n)
		}
	}
	for _, name := range []string{"", "seg-", "seg-7", "seg-0000007", "seg-000000007", "seg-00000000", "seg-0000000a", "seg- 0000007", "seg-+0000007", "seg--0000007", "Seg-00000007", "seg_00000007", "00000007", "seg-seg-00000007", "seg-00000007 ", "xseg-00000007", "seg-0000_007", "seg-100000000", "sheet", "seg-0x000007", "seg-99999999999999999999999"} {
		if id, ok := head.ID(name); id != 0 || ok {
			t.Errorf("P10.1: ID of %q: %d, %v", name, id, ok)
		}
	}
}

// P10.2, P10.3: heads, and whether a segment begins with its own.
func TestBytes(t *testing.T) {
	for id, n := range held {
		want := "LADE" + code.Fixed(uint32(n)) + "\x00\x00\x00\x00"
		want += code.Fixed(crc.Of(want))
		b := head.Bytes(id)
		if b != want || len(b) != 16 {
			t.Errorf("P10.2: Bytes of %d: %x", id, b)
		}
		for _, behind := range []string{"", "\x00", b} {
			if got := head.Check(b+behind, id); got != api.Whole {
				t.Errorf("P10.2: Check of %d: %d", id, got)
			}
		}
		for k := range len(b) {
			if got := head.Check(b[:k], id); got != api.Torn {
				t.Errorf("P10.2: Check of %d, %d bytes: %d", id, k, got)
			}
			for _, bit := range []byte{1, 128} {
				spoilt := b[:k] + string([]byte{b[k] ^ bit})
				if head.Check(spoilt, id) != api.Bad || head.Check(spoilt+b[k+1:], id) != api.Bad || head.Check(spoilt+b[k+1:]+"more", id) != api.Bad {
					t.Errorf("P10.2: Check of %d, byte %d spoilt", id, k)
				}
			}
		}
		other := n%last + 1
		if got := head.Check(b, other); got != api.Bad {
			t.Errorf("P10.3: the head of %d as that of %d: %d", n, other, got)
		}
	}
}
