package frame_test

import (
	"math"
	"math/rand"
	"strings"
	"testing"

	"lade/api"
	"lade/code"
	"lade/crc"
	"lade/frame"
)

// framed lays a frame by hand: with whatever numbers and sum.
func framed(first, second uint32, b string, sum uint32) string {
	return code.Fixed(first) + code.Fixed(second) + b + code.Fixed(sum)
}

func body(n int, r *rand.Rand) string {
	b := make([]byte, n)
	r.Read(b)
	return string(b)
}

// refused tells whether s is read as class.
func refused(t *testing.T, what, s string, class int) {
	t.Helper()
	if b, n, got := frame.Read(s); b != "" || n != 0 || got != class {
		t.Errorf("P3.2: %s: %d bytes, %d, class %d, not %d", what, len(b), n, got, class)
	}
}

// P3.1: the bytes of a frame, and how many.
func TestWrap(t *testing.T) {
	r := rand.New(rand.NewSource(1))
	for _, n := range []int{1, 2, 255, 256, 1000, api.MaxBody - 1, api.MaxBody} {
		b := body(n, r)
		got, e := frame.Wrap(b)
		want := framed(uint32(n), ^uint32(n), b, crc.Of(b))
		if got != want || e != api.OK || len(got) != frame.Size(n) {
			t.Errorf("P3.1: Wrap of %d bytes: %x, %v", n, got, e)
		}
		if back, k, class := frame.Read(got + "behind"); back != b || k != n+12 || class != api.Whole {
			t.Errorf("P3.2: Read of a frame of %d: %d bytes, %d, class %d", n, len(back), k, class)
		}
	}
	if got, e := frame.Wrap(""); got != "" || e != api.ErrForm {
		t.Errorf("P3.1: Wrap of nothing: %q, %v", got, e)
	}
	for _, n := range []int{api.MaxBody + 1, 3 * api.MaxBody} {
		if got, e := frame.Wrap(body(n, r)); got != "" || e != api.ErrLarge {
			t.Errorf("P3.1: Wrap of %d bytes: %d bytes, %v", n, len(got), e)
		}
	}
	for n, want := range map[int]int{0: 12, 1: 13, -12: 0, -20: -8, 5000: 5012, math.MinInt: math.MinInt + 12} {
		if frame.Size(n) != want {
			t.Errorf("P3.1: Size(%d): %d", n, frame.Size(n))
		}
	}
}

// P3.2: what lacks bytes is torn, wherever it ends.
func TestTorn(t *testing.T) {
	refused(t, "nothing", "", api.End)
	s, _ := frame.Wrap("what it holds")
	for i := 1; i < len(s); i++ {
		refused(t, "a beginning", s[:i], api.Torn)
	}
	refused(t, "seven bytes that make no sense", "\xff\xff\xff\xff\xff\xff\xff", api.Torn)
	refused(t, "the most, a byte lacks", framed(api.MaxBody, ^uint32(api.MaxBody), strings.Repeat("a", api.MaxBody-1), 0), api.Torn)
}

// P3.2: what doesn't fit together is bad; the numbers come ahead of what lacks.
func TestBad(t *testing.T) {
	sum := crc.Of("abc")
	if b, n, class := frame.Read(framed(3, ^uint32(3), "abc", sum)); b != "abc" || n != 15 || class != api.Whole {
		t.Errorf("P3.2: %q, %d, %d", b, n, class)
	}
	refused(t, "the second number", framed(3, ^uint32(2), "abc", sum), api.Bad)
	refused(t, "the second number is the first", framed(3, 3, "abc", sum), api.Bad)
	refused(t, "the sum", framed(3, ^uint32(3), "abc", sum+1), api.Bad)
	refused(t, "what it holds", framed(3, ^uint32(3), "abd", sum), api.Bad)
	refused(t, "0 bytes", framed(0, math.MaxUint32, "", 0), api.Bad)
	large := strings.Repeat("a", api.MaxBody+1)
	refused(t, "one too many", framed(api.MaxBody+1, ^uint32(api.MaxBody+1), large, crc.Of(large)), api.Bad)
	for _, n := range []uint32{0, api.MaxBody + 1, 1 << 31, math.MaxUint32} {
		refused(t, "eight bytes alone", code.Fixed(n)+code.Fixed(^n), api.Bad)
	}
	refused(t, "eight bytes alone that don't fit", code.Fixed(3)+code.Fixed(3), api.Bad)
	refused(t, "eight bytes alone", code.Fixed(3)+code.Fixed(^uint32(3)), api.Torn)
}

// flip tells s with bit at flipped, and of the 31 behind it those of mask.
func flip(s string, at int, mask uint32) string {
	b := []byte(s)
	for k := range 32 {
		if mask>>k&1 == 1 && at+k < 8*len(b) {
			b[(at+k)/8] ^= 1 << ((at + k) % 8)
		}
	}
	return string(b)
}

// P3.3: bits that are flipped within 32 in a row are seen.
func TestFlipped(t *testing.T) {
	r := rand.New(rand.NewSource(2))
	for _, n := range []int{1, 2, 3, 4, 5, 40, 300} {
		s, _ := frame.Wrap(body(n, r))
		for at := range 8 * len(s) {
			for _, mask := range []uint32{1, 3, 1<<31 | 1, math.MaxUint32, r.Uint32() | 1, r.Uint32() | 1} {
				for _, behind := range []string{"", body(50, r)} {
					if b, k, class := frame.Read(flip(s, at, mask) + behind); class == api.Whole || b != "" || k != 0 {
						t.Fatalf("P3.3: %d bytes, flipped at %d by %x: class %d", n, at, mask, class)
					}
				}
			}
		}
	}
}

// P3.2: whatever bytes: Whole only of what Wrap tells.
func TestWhatever(t *testing.T) {
	r := rand.New(rand.NewSource(3))
	whole := 0
	for range 20000 {
		s := framed(uint32(r.Intn(4)), ^uint32(r.Intn(4)), body(r.Intn(4), r), crc.Of(body(1, r)))
		if r.Intn(2) == 0 {
			s, _ = frame.Wrap(body(1+r.Intn(3), r))
			s = flip(s, r.Intn(8*len(s)), uint32(r.Intn(2)))
		}
		s = s[:r.Intn(len(s)+1)] + body(r.Intn(3), r)
		b, n, class := frame.Read(s)
		if class != api.Whole {
			continue
		}
		whole++
		if again, e := frame.Wrap(b); e != api.OK || again != s[:n] {
			t.Fatalf("P3.2: %x is read as %x", s, b)
		}
	}
	if whole == 0 {
		t.Error("no frame was whole")
	}
}
