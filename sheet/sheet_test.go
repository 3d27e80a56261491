package sheet_test

import (
	"fmt"
	"math"
	"math/rand"
	"slices"
	"testing"

	"lade/api"
	"lade/code"
	"lade/crc"
	"lade/disk"
	"lade/sheet"
)

const last = 99999999

func rising(from, n int) []int {
	var l []int
	for i := range n {
		l = append(l, from+i)
	}
	return l
}

func good() [][]int {
	return [][]int{{1}, {last}, {1, last}, {2, 5, 300}, rising(1, 199), rising(1, 200), rising(last-199, 200)}
}

func bad() [][]int {
	return [][]int{nil, {}, {0}, {-1}, {last + 1}, {math.MaxInt}, {math.MinInt}, {0, 1}, {1, 1}, {2, 1}, {1, 3, 3}, {1, 3, 2}, {1, last + 1}, rising(1, 201), rising(last-198, 200)}
}

// sealed: a list of numbers as Bytes would lay it, if it took all.
func sealed(l []int) string {
	b := code.Put(len(l))
	for _, id := range l {
		b += code.Put(id)
	}
	return code.Fixed(crc.Of(b)) + b
}

func put(d *disk.Disk, name, b string) {
	d.Create(name)
	d.Append(name, b)
	d.Sync(name)
}

// P9.1: what is a list, its bytes, and what is read of them.
func TestBytes(t *testing.T) {
	for i, l := range good() {
		b, e := sheet.Bytes(l)
		if !sheet.Is(l) || b != sealed(l) || e != 0 {
			t.Errorf("P9.1: good list %d: %x, %v", i, b, e)
		}
		if got, e := sheet.Read(b); !slices.Equal(got, l) || e != 0 {
			t.Errorf("P9.1: good list %d: %v, %v", i, got, e)
		}
		for k := range len(b) {
			if got, e := sheet.Read(b[:k]); len(got) != 0 || e != api.ErrCorrupt {
				t.Errorf("P9.1: good list %d, %d bytes: %v, %v", i, k, got, e)
			}
		}
		for _, behind := range []string{"\x00", "\x01", b} {
			if got, e := sheet.Read(b + behind); len(got) != 0 || e != api.ErrCorrupt {
				t.Errorf("P9.1: good list %d, more behind: %v, %v", i, got, e)
			}
		}
	}
	for i, l := range bad() {
		if b, e := sheet.Bytes(l); sheet.Is(l) || b != "" || e != api.ErrForm {
			t.Errorf("P9.1: bad list %d: %x, %v", i, b, e)
		}
		if got, e := sheet.Read(sealed(l)); len(got) != 0 || e != api.ErrCorrupt {
			t.Errorf("P9.1: bad list %d: %v, %v", i, got, e)
		}
	}
	for _, rest := range []string{"", "\x80", "\x80\x00", "\x01", "\x02\x01", "\x01\x81\x00", "\x81\x00\x01", "\xff\xff\xff\xff\xff\xff\xff\xff\x7f\x01"} {
		if got, e := sheet.Read(code.Fixed(crc.Of(rest)) + rest); len(got) != 0 || e != api.ErrCorrupt {
			t.Errorf("P9.1: %x: %v, %v", rest, got, e)
		}
	}
}

// P9.1: whatever bytes: what is read is what Bytes tells; no bit may be flipped.
func TestReadWhatever(t *testing.T) {
	r := rand.New(rand.NewSource(1))
	for _, l := range good() {
		s := sealed(l)
		for bit := range 8 * len(s) {
			b := []byte(s)
			b[bit/8] ^= 1 << (bit % 8)
			if got, e := sheet.Read(string(b)); len(got) != 0 || e != api.ErrCorrupt {
				t.Fatalf("P9.1: bit %d: %v, %v", bit, got, e)
			}
		}
	}
	for range 20000 {
		b := make([]byte, r.Intn(6))
		for i := range b {
			b[i] = []byte{0, 1, 2, 3, 128}[r.Intn(5)]
		}
		s := code.Fixed(crc.Of(string(b))) + string(b)
		if l, e := sheet.Read(s); e == 0 && s != sealed(l) || e != 0 && e != api.ErrCorrupt {
			t.Fatalf("P9.1: %x: %v, %v", s, l, e)
		}
	}
}

// P9.2: what is loaded.
func TestLoad(t *testing.T) {
	d := disk.New(1000)
	if l, e := sheet.Load(d); len(l) != 0 || e != api.ErrFile {
		t.Errorf("P9.2: of an empty disk: %v, %v", l, e)
	}
	put(d, "sheet.new", sealed([]int{1}))
	if l, e := sheet.Load(d); len(l) != 0 || e != api.ErrFile {
		t.Errorf("P9.2: sheet.new isn't the sheet: %v, %v", l, e)
	}
	put(d, "sheet", "what it isn't")
	if l, e := sheet.Load(d); len(l) != 0 || e != api.ErrCorrupt {
		t.Errorf("P9.2: of another file: %v, %v", l, e)
	}
	if e := sheet.Save(d, []int{3, 4}); e != 0 {
		t.Errorf("P9.2: Save: %v", e)
	}
	if l, e := sheet.Load(d); !slices.Equal(l, []int{3, 4}) || e != 0 {
		t.Errorf("P9.2: Load: %v, %v", l, e)
	}
	d.Limit(0)
	if l, e := sheet.Load(d); len(l) != 0 || e != api.ErrPower {
		t.Errorf("P9.2: without power: %v, %v", l, e)
	}
}

// P9.2: what is saved, and what is told of it.
func TestSave(t *testing.T) {
	for i, l := range bad() {
		d := disk.New(1000)
		put(d, "sheet.new", "x")
		d.Limit(0)
		if e := sheet.Save(d, l); e != api.ErrForm || len(d.All()) != 1 {
			t.Errorf("P9.2: bad list %d: %v", i, e)
		}
	}
	for i, l := range good() {
		d := disk.New(1000)
		put(d, "other", "y")
		put(d, "sheet.new", "left behind")
		steps := d.Steps()
		if e := sheet.Save(d, l); e != 0 || d.Steps() != steps+5 {
			t.Errorf("P9.2: good list %d: %v, %d steps", i, e, d.Steps()-steps)
		}
		want := []api.File{{Name: "other", B: "y", Kept: 1}, {Name: "sheet", B: sealed(l), Kept: len(sealed(l))}}
		if !slices.Equal(d.All(), want) {
			t.Errorf("P9.2: good list %d: %v", i, d.All())
		}
	}
	d := disk.New(8)
	sheet.Save(d, []int{1}) // 6 bytes
	before := sealed([]int{1})
	if e := sheet.Save(d, []int{1, 2}); e != api.ErrFull {
		t.Errorf("P9.2: no room: %v", e)
	}
	if b, _ := d.Read("sheet"); b != before {
		t.Errorf("P9.2: no room: the sheet is %x", b)
	}
	d = disk.New(100000)
	sheet.Save(d, []int{1})
	for i := 1; i < 1000; i++ {
		d.Create(fmt.Sprint(i))
	}
	if e := sheet.Save(d, []int{1, 2}); e != api.ErrFull {
		t.Errorf("P9.2: too many files: %v", e)
	}
}

// P9.3: at whatever step the power goes off, it is the old one or the new one.
func TestPower(t *testing.T) {
	before, behind := []int{7, 8}, []int{8, 9, 10}
	for _, left := range []bool{false, true} {
		for _, keep := range []uint64{0, 0x8080808080808080, math.MaxUint64} {
			for n := range 7 {
				d := disk.New(1000)
				sheet.Save(d, before)
				steps := 4
				if left {
					put(d, "sheet.new", "left behind")
					steps = 5
				}
				d.Limit(n)
				e := sheet.Save(d, behind)
				if (e == 0) != (n >= steps) || e != 0 && e != api.ErrPower {
					t.Errorf("P9.2: power for %d steps: %v", n, e)
				}
				d.Crash(keep)
				want := before
				if e == 0 {
					want = behind
				}
				if l, e := sheet.Load(d); !slices.Equal(l, want) || e != 0 {
					t.Errorf("P9.3: power for %d steps: %v, %v", n, l, e)
				}
				if e := sheet.Save(d, behind); e != 0 {
					t.Errorf("P9.3: again: %v", e)
				}
			}
		}
	}
}
