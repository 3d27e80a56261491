package code_test

import (
	"math"
	"math/rand"
	"strings"
	"testing"

	"lade/api"
	"lade/code"
)

// numbers: where one byte more is needed, and the ends.
func numbers() []int {
	l := []int{0, 1, 2, 300, math.MaxInt, math.MaxInt - 1}
	for bits := 7; bits < 63; bits += 7 {
		l = append(l, 1<<bits-1, 1<<bits, 1<<bits+1)
	}
	return l
}

// P1.1: as few bytes as may be, the lowest seven bits first.
func TestPut(t *testing.T) {
	for _, n := range numbers() {
		b := code.Put(n)
		bytes, sum := 1, 0
		for m := n >> 7; m > 0; m >>= 7 {
			bytes++
		}
		if len(b) != bytes || len(b) > 9 {
			t.Errorf("P1.1: Put(%d) has %d bytes, not %d", n, len(b), bytes)
		}
		for i := range len(b) {
			sum += int(b[i]&127) << (7 * i)
			if (b[i]&128 != 0) != (i < len(b)-1) {
				t.Errorf("P1.1: Put(%d): byte %d is %d", n, i, b[i])
			}
		}
		if sum != n {
			t.Errorf("P1.1: Put(%d) adds up to %d", n, sum)
		}
	}
	if code.Put(300) != "\xac\x02" {
		t.Errorf("P1.1: Put(300): %x", code.Put(300))
	}
	for _, n := range []int{-1, -300, math.MinInt} {
		if code.Put(n) != "\x00" {
			t.Errorf("P1.1: Put(%d): %x, not as Put(0)", n, code.Put(n))
		}
	}
}

// P1.1, P1.3: what Put told is read, whatever stands behind; a beginning of it is short.
func TestGetPut(t *testing.T) {
	for _, n := range numbers() {
		b := code.Put(n)
		for _, behind := range []string{"", "\x00", "\xff", "abc"} {
			if got, k, e := code.Get(b + behind); got != n || k != len(b) || e != api.OK {
				t.Errorf("P1.3: Get(Put(%d) and %q): %d, %d, %v", n, behind, got, k, e)
			}
		}
		for i := range len(b) {
			if got, k, e := code.Get(b[:i]); got != 0 || k != 0 || e != api.ErrShort {
				t.Errorf("P1.1: Get of %d bytes of %x: %d, %d, %v", i, b, got, k, e)
			}
		}
	}
}

// P1.1: what Put doesn't tell is ill-formed.
func TestGetWrong(t *testing.T) {
	full := strings.Repeat("\xff", 8)
	for _, c := range []struct {
		s string
		e api.Errno
	}{
		{"", api.ErrShort}, {"\x80", api.ErrShort}, {full, api.ErrShort},
		{"\x80\x00", api.ErrForm}, {"\x81\x80\x00\x01", api.ErrForm}, {full + "\x00", api.ErrForm},
		{full + "\x80", api.ErrForm}, {full + "\xff\x01", api.ErrForm},
	} {
		if n, k, e := code.Get(c.s); n != 0 || k != 0 || e != c.e {
			t.Errorf("P1.1: Get(%x): %d, %d, %v, not %v", c.s, n, k, e, c.e)
		}
	}
	r := rand.New(rand.NewSource(1))
	for range 20000 {
		b := make([]byte, r.Intn(11))
		for i := range b {
			b[i] = []byte{0, 1, 127, 128, 129, 255}[r.Intn(6)]
		}
		n, k, e := code.Get(string(b))
		if e == api.OK && code.Put(n) != string(b[:k]) {
			t.Fatalf("P1.1: Get(%x) tells %d, that Put tells by %x", b, n, code.Put(n))
		}
		if e != api.OK && (n != 0 || k != 0) {
			t.Fatalf("P1.1: Get(%x): %d, %d beside %v", b, n, k, e)
		}
	}
}

// P1.2, P1.3: texts.
func TestTexts(t *testing.T) {
	for _, s := range []string{"", "a", "ab\x00", strings.Repeat("x", 127), strings.Repeat("y", 128), strings.Repeat("z", 20000)} {
		b := code.Text(s)
		if b != code.Put(len(s))+s {
			t.Errorf("P1.2: Text of %d bytes: %d", len(s), len(b))
		}
		for _, most := range []int{len(s), len(s) + 1, math.MaxInt} {
			for _, behind := range []string{"", "more"} {
				if got, k, e := code.Texts(b+behind, most); got != s || k != len(b) || e != api.OK {
					t.Errorf("P1.3: Texts of %d bytes, at most %d: %d bytes, %d, %v", len(s), most, len(got), k, e)
				}
			}
		}
		if len(s) == 0 {
			continue
		}
		if got, k, e := code.Texts(b, len(s)-1); got != "" || k != 0 || e != api.ErrLarge {
			t.Errorf("P1.2: Texts of %d bytes, one too many: %d, %v", len(s), k, e)
		}
		if got, k, e := code.Texts(b[:len(b)-1], len(s)); got != "" || k != 0 || e != api.ErrShort {
			t.Errorf("P1.2: Texts of %d bytes, one lacks: %d, %v", len(s), k, e)
		}
		if _, _, e := code.Texts(b[:len(b)-1], len(s)-1); e != api.ErrLarge {
			t.Errorf("P1.2: too many comes ahead of lacking: %v", e)
		}
	}
	for _, most := range []int{0, -1, math.MinInt} {
		if got, k, e := code.Texts("\x00a", most); got != "" || k != 1 || e != api.OK {
			t.Errorf("P1.2: Texts of none, at most %d: %q, %d, %v", most, got, k, e)
		}
		if _, _, e := code.Texts("\x01a", most); e != api.ErrLarge {
			t.Errorf("P1.2: Texts of one, at most %d: %v", most, e)
		}
	}
	for s, want := range map[string]api.Errno{"": api.ErrShort, "\x81": api.ErrShort, "\x81\x00a": api.ErrForm} {
		if _, k, e := code.Texts(s, 1000); e != want || k != 0 {
			t.Errorf("P1.2: Texts(%x): %v, not Get's %v", s, e, want)
		}
	}
	if _, _, e := code.Texts(code.Put(math.MaxInt)+"a", math.MaxInt); e != api.ErrShort {
		t.Errorf("P1.2: Texts of a vast number: %v", e)
	}
}

// P1.2, P1.3: numbers of four bytes.
func TestFixed(t *testing.T) {
	if b := code.Fixed(0x01020304); b != "\x04\x03\x02\x01" {
		t.Errorf("P1.2: Fixed: %x", b)
	}
	r := rand.New(rand.NewSource(2))
	l := []uint32{0, 1, 255, 256, 1 << 31, math.MaxUint32}
	for range 100 {
		l = append(l, r.Uint32())
	}
	for _, n := range l {
		b := code.Fixed(n)
		for _, behind := range []string{"", "\xff"} {
			if got, e := code.Fix(b + behind); len(b) != 4 || got != n || e != api.OK {
				t.Errorf("P1.3: Fix(Fixed(%d)): %d, %v", n, got, e)
			}
		}
		for i := range 4 {
			if got, e := code.Fix(b[:i]); got != 0 || e != api.ErrShort {
				t.Errorf("P1.2: Fix of %d bytes: %d, %v", i, got, e)
			}
		}
	}
}
