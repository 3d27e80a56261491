package disk_test

import (
	"fmt"
	"math"
	"math/rand"
	"slices"
	"strings"
	"testing"

	"lade/api"
	"lade/disk"
)

func expect(t *testing.T, what string, got, want api.Errno) {
	t.Helper()
	if got != want {
		t.Errorf("%s: %v, not %v", what, got, want)
	}
}

func files(t *testing.T, what string, d *disk.Disk, want ...api.File) {
	t.Helper()
	if got := d.All(); !slices.Equal(got, want) {
		t.Errorf("%s: %v, not %v", what, got, want)
	}
}

func file(name, b string, kept int) api.File { return api.File{Name: name, B: b, Kept: kept} }

// P8.1: what each call does, and what it refuses.
func TestFiles(t *testing.T) {
	d := disk.New(10)
	expect(t, "P8.1: Append of none", d.Append("a", "x"), api.ErrFile)
	expect(t, "P8.1: Sync of none", d.Sync("a"), api.ErrFile)
	expect(t, "P8.1: Rename of none", d.Rename("a", "b"), api.ErrFile)
	expect(t, "P8.1: Remove of none", d.Remove("a"), api.ErrFile)
	expect(t, "P8.1: Cut of none", d.Cut("a", 0), api.ErrFile)
	if s, e := d.Read("a"); s != "" || e != api.ErrFile {
		t.Errorf("P8.1: Read of none: %q, %v", s, e)
	}
	if d.Steps() != 0 {
		t.Errorf("P8.2: what is refused is no step: %d", d.Steps())
	}
	expect(t, "P8.1: Create", d.Create("a"), 0)
	expect(t, "P8.1: Create again", d.Create("a"), api.ErrExists)
	expect(t, "P8.1: a name without letters", d.Create(""), 0)
	expect(t, "P8.1: Append", d.Append("a", "abcd"), 0)
	files(t, "P8.1: Append", d, file("", "", 0), file("a", "abcd", 0))
	expect(t, "P8.1: Sync", d.Sync("a"), 0)
	expect(t, "P8.1: Append", d.Append("a", "ef"), 0)
	files(t, "P8.1: Append behind Sync", d, file("", "", 0), file("a", "abcdef", 4))
	expect(t, "P8.1: five bytes, room for four", d.Append("", "12345"), api.ErrFull)
	expect(t, "P8.1: four bytes, room for four", d.Append("", "1234"), 0)
	expect(t, "P8.1: no room", d.Append("", "5"), api.ErrFull)
	expect(t, "P8.1: no bytes", d.Append("", ""), 0)
	files(t, "P8.1: ErrFull changes nothing", d, file("", "1234", 0), file("a", "abcdef", 4))
	if d.Used() != 10 {
		t.Errorf("P8.1: Used: %d", d.Used())
	}
	if s, e := d.Read("a"); s != "abcdef" || e != 0 {
		t.Errorf("P8.1: Read: %q, %v", s, e)
	}
	expect(t, "P8.1: Rename", d.Rename("a", "b"), 0)
	files(t, "P8.1: Rename keeps", d, file("", "1234", 0), file("b", "abcdef", 6))
	expect(t, "P8.1: Rename to one that is there", d.Rename("", "b"), 0)
	files(t, "P8.1: Rename to one that is there", d, file("b", "1234", 4))
	expect(t, "P8.1: Append", d.Append("b", "5"), 0)
	expect(t, "P8.1: Rename to itself", d.Rename("b", "b"), 0)
	files(t, "P8.1: Rename to itself", d, file("b", "12345", 5))
	expect(t, "P8.1: Append", d.Append("b", "6789"), 0)
	expect(t, "P8.1: Cut", d.Cut("b", 7), 0)
	files(t, "P8.1: Cut", d, file("b", "1234567", 7))
	expect(t, "P8.1: Cut beyond", d.Cut("b", math.MaxInt), 0)
	expect(t, "P8.1: Append", d.Append("b", "xy"), 0)
	expect(t, "P8.1: Cut beyond", d.Cut("b", 10), 0)
	files(t, "P8.1: Cut beyond keeps all", d, file("b", "1234567xy", 9))
	expect(t, "P8.1: Cut below", d.Cut("b", math.MinInt), 0)
	files(t, "P8.1: Cut below", d, file("b", "", 0))
	expect(t, "P8.1: Remove", d.Remove("b"), 0)
	files(t, "P8.1: Remove", d)
	if d.Steps() != 18 {
		t.Errorf("P8.2: Steps: %d", d.Steps())
	}
}

// P8.1: room, held; what was there from the beginning.
func TestOf(t *testing.T) {
	for room, want := range map[int]int{-1: 0, math.MinInt: 0, 0: 0, 3: 3, 1000000: 1000000, 1000001: 1000000, math.MaxInt: 1000000} {
		d := disk.New(room)
		d.Create("a")
		expect(t, "P8.1: all there is room for", d.Append("a", strings.Repeat("x", want)), 0)
		expect(t, "P8.1: one more", d.Append("a", "y"), api.ErrFull)
	}
	l := []api.File{file("b", "bbbb", 2), file("a", "aaa", 9), file("b", "other", 1), file("c", "cc", -1)}
	d := disk.Of(3, l)
	files(t, "P8.1: Of", d, file("a", "aaa", 3), file("b", "bbbb", 2), file("c", "cc", 0))
	expect(t, "P8.1: more than there is room for", d.Append("a", ""), api.ErrFull)
	expect(t, "P8.1: a file more", d.Create("d"), 0)
	l = nil
	for i := range 1002 {
		l = append(l, file(fmt.Sprintf("%04d", 2000-i/2*2), "x", 1)) // each name twice
	}
	for i := range 600 {
		l = append(l, file(fmt.Sprintf("%04d", i), "y", 1))
	}
	d = disk.Of(100000, l)
	all := d.All()
	if len(all) != 1000 || all[0].Name != "0000" || all[498].Name != "0498" || all[499].Name != "1000" {
		t.Errorf("P8.1: Of: at most MaxNames: %d, %v", len(all), all[499])
	}
	expect(t, "P8.1: a file too many", d.Create("new"), api.ErrFull)
	expect(t, "P8.1: there is one, and too many", d.Create("0000"), api.ErrExists)
	expect(t, "P8.1: one file less", d.Remove("0000"), 0)
	expect(t, "P8.1: one file more", d.Create("new"), 0)
	expect(t, "P8.1: a file too many", d.Create("newer"), api.ErrFull)
	expect(t, "P8.1: another name", d.Rename("new", "newer"), 0)
}

// calls: all that needs power.
func calls(d *disk.Disk) map[string]api.Errno {
	_, read := d.Read("a")
	return map[string]api.Errno{"Create": d.Create("a"), "Append": d.Append("none", "x"), "Sync": d.Sync("none"), "Rename": d.Rename("none", "b"), "Remove": d.Remove("none"), "Cut": d.Cut("none", 0), "Read": read}
}

// P8.2: as many steps are done; then nothing is, until the crash.
func TestLimit(t *testing.T) {
	for _, n := range []int{0, 1, 2, 3, 7} {
		d := disk.New(100)
		d.Create("a")
		d.Limit(n)
		for i := range n {
			expect(t, "P8.2: refused", d.Append("none", "x"), api.ErrFile)
			expect(t, "P8.2: a step that is done", d.Append("a", string(rune('0'+i))), 0)
		}
		for name, e := range calls(d) {
			expect(t, "P8.2: without power: "+name, e, api.ErrPower)
		}
		files(t, "P8.2: without power", d, file("a", "0123456"[:n], 0))
		if d.Steps() != n+1 || d.Used() != n {
			t.Errorf("P8.2: without power: %d steps, %d bytes", d.Steps(), d.Used())
		}
		expect(t, "P8.2: a copy has no power, either", d.Copy().Sync("a"), api.ErrPower)
		d.Crash(255)
		files(t, "P8.2: behind the crash", d, file("a", "0123456"[:n], n))
		for range 20 {
			expect(t, "P8.2: without limit", d.Sync("a"), 0)
		}
	}
	d := disk.New(100)
	d.Limit(-5)
	expect(t, "P8.2: below 0", d.Create("a"), api.ErrPower)
	d.Limit(2)
	expect(t, "P8.2: two more", d.Create("a"), 0)
	c := d.Copy()
	expect(t, "P8.2: two more", d.Sync("a"), 0)
	expect(t, "P8.2: off", d.Sync("a"), api.ErrPower)
	expect(t, "P8.2: the copy has one more", c.Sync("a"), 0)
	expect(t, "P8.2: the copy is off", c.Sync("a"), api.ErrPower)
	d.Limit(1)
	d.Crash(0)
	expect(t, "P8.2: the crash takes the limit away", d.Sync("a"), 0)
	expect(t, "P8.2: the crash takes the limit away", d.Sync("a"), 0)
}

// P8.2, P8.3: what stays of what isn't kept.
func TestCrash(t *testing.T) {
	d := disk.New(10)
	d.Create("a")
	d.Append("a", "abcd")
	d.Crash(0)
	files(t, "P8.2: nothing was synced", d, file("a", "", 0))
	b := strings.Repeat("x", 100)
	for _, k := range []uint64{0, 1, 2, 3, 127, 128, 200, 254, 255} {
		d := disk.Of(1000, []api.File{file("a", b, 10)})
		d.Crash(k)
		n := 10 + 90*int(k)/255
		files(t, "P8.2: a part of it", d, file("a", b[:n], n))
	}
	var l []api.File
	for i := range 10 {
		l = append(l, file(string(rune('j'-i)), b, 5*i))
	}
	d = disk.Of(10000, l)
	keep := uint64(0x10_80_00_ff_33_01_c8_fe)
	d.Crash(keep)
	for i, f := range d.All() {
		kept := 5 * (9 - i)
		n := kept + (100-kept)*int(keep>>(8*(i%8))&255)/255
		if f.Kept != n || len(f.B) != n {
			t.Errorf("P8.2: file %d has %d bytes, %d kept, not %d", i, len(f.B), f.Kept, n)
		}
	}
}

// P8.2: a copy goes its own way.
func TestCopy(t *testing.T) {
	d := disk.Of(20, []api.File{file("a", "abcd", 2), file("b", "x", 0)})
	d.Sync("b")
	c := d.Copy()
	before := d.All()
	if !slices.Equal(before, c.All()) || c.Steps() != 1 || c.Used() != 5 {
		t.Error("P8.2: alike")
	}
	c.Append("a", "more")
	c.Cut("b", 0)
	c.Create("c")
	c.Crash(0)
	files(t, "P8.2: of the copy nothing is told", d, before...)
	d.Append("a", "1")
	d.Remove("b")
	files(t, "P8.2: the copy stays", c, file("a", "ab", 2), file("b", "", 0), file("c", "", 0))
	for range 9 { // wherever memory has room left
		e := c.Copy()
		c.Append("b", "c")
		e.Append("b", "e")
		if s, _ := c.Read("b"); strings.Contains(s, "e") {
			t.Errorf("P8.2: the copies share memory: %q", s)
		}
	}
	c.Cut("b", 0)
	expect(t, "P8.2: the copy has as much room", c.Append("a", strings.Repeat("x", 19)), api.ErrFull)
	expect(t, "P8.2: the copy has as much room", c.Append("a", strings.Repeat("x", 18)), 0)
}

// model: names and what is told of them, by the words of P8.1.
type model struct {
	room  int
	files map[string]api.File
}

func (m *model) do(step int, name, other string, n int) api.Errno {
	f, there := m.files[name]
	switch {
	case step == 0 && there:
		return api.ErrExists
	case step > 0 && !there:
		return api.ErrFile
	}
	used := 0
	for _, g := range m.files {
		used += len(g.B)
	}
	delete(m.files, name)
	switch step {
	case 0:
		f = file(name, "", 0)
	case 1:
		if used+n > m.room {
			m.files[name] = f
			return api.ErrFull
		}
		f.B += strings.Repeat("z", n)
	case 2:
		f.Kept = len(f.B)
	case 3:
		m.files[other] = file(other, f.B, len(f.B))
		return 0
	case 4:
		return 0
	case 5:
		n = min(n, len(f.B))
		f.B, f.Kept = f.B[:n], n
	}
	m.files[name] = f
	return 0
}

// P8.1, P40.6: whatever is done, the disk does as the model, and has never more than there is room for.
func TestAgainstModel(t *testing.T) {
	r := rand.New(rand.NewSource(1))
	names := []string{"", "a", "b", "seg-1", "sheet"}
	for range 200 {
		room := r.Intn(60)
		d, m := disk.New(room), &model{room: room, files: map[string]api.File{}}
		steps := 0
		for range 100 {
			step, name, other, n := r.Intn(6), names[r.Intn(5)], names[r.Intn(5)], r.Intn(20)
			got := []func() api.Errno{
				func() api.Errno { return d.Create(name) }, func() api.Errno { return d.Append(name, strings.Repeat("z", n)) }, func() api.Errno { return d.Sync(name) },
				func() api.Errno { return d.Rename(name, other) }, func() api.Errno { return d.Remove(name) }, func() api.Errno { return d.Cut(name, n) },
			}[step]()
			if want := m.do(step, name, other, n); got != want {
				t.Fatalf("P8.1: step %d of %q, %q, %d: %v, not %v", step, name, other, n, got, want)
			}
			if got == 0 {
				steps++
			}
			var want []api.File
			for _, f := range m.files {
				want = append(want, f)
			}
			slices.SortFunc(want, func(a, b api.File) int { return strings.Compare(a.Name, b.Name) })
			files(t, "P8.1", d, want...)
			if d.Used() > room || d.Steps() != steps {
				t.Fatalf("P40.6: %d bytes, room for %d; %d steps, not %d", d.Used(), room, d.Steps(), steps)
			}
		}
	}
}
