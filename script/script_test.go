package script_test

import (
	"fmt"
	"math/rand"
	"slices"
	"strings"
	"testing"

	"lade/api"
	"lade/disk"
	"lade/ledger"
	"lade/reclaim"
	"lade/script"
	"lade/store"
)

// says does a line, and holds what is told against what should be.
func says(t *testing.T, s *script.Script, line string, want ...string) {
	t.Helper()
	if got, e := s.Do(line); e != 0 || !slices.Equal(got, want) {
		t.Errorf("P28.1: %q: %q, %v, not %q", line, got, e, want)
	}
}

// P28.1: what each line tells.
func TestLines(t *testing.T) {
	s := script.New(100000, 0)
	says(t, s, "groups", "")
	says(t, s, "segments", "1")
	says(t, s, "append 1 1 1 a b", "seq 1")
	says(t, s, "append 1 3 2 c ; hard 1 2 1 3 ; snap 999 40 7 ; append 999 41 8 word;word", "seq 2")
	says(t, s, "entries 1 1 4", "1 1 a", "2 1 b", "3 2 c")
	says(t, s, "entries 1 2 3", "2 1 b")
	says(t, s, "entries 1 2 2")
	says(t, s, "entries 999 41 42", "41 8 word;word")
	says(t, s, "entries 1 3 2", "error 11")
	says(t, s, "entries 1 0 2", "error 15")
	says(t, s, "entries 1 1 5", "error 16")
	says(t, s, "entries 2 1 1", "error 13")
	says(t, s, "bounds 1", "1 3")
	says(t, s, "bounds 999", "41 41")
	says(t, s, "bounds 0", "error 13")
	says(t, s, "term 999 40", "7")
	says(t, s, "term 1 3", "2")
	says(t, s, "term 1 0", "error 15")
	says(t, s, "term 1 4", "error 16")
	says(t, s, "hardstate 1", "2 1 3")
	says(t, s, "hardstate 999", "0 0 0")
	says(t, s, "hardstate 5", "error 13")
	says(t, s, "compact 1 2", "seq 3")
	says(t, s, "compact 1 2", "error 15")
	says(t, s, "bounds 1", "3 3")
	says(t, s, "destroy 5", "error 13")
	says(t, s, "append 1 9 1 x", "error 14")
	says(t, s, "append 1 4 1 1 2 3 4 5 6", "seq 4")
	says(t, s, "append 1 4 1 1 2 3 4 5 6 7", "error 11")
	says(t, s, "append 1 4 0 x", "error 11")
	says(t, s, "append 1000 1 1 x", "error 11")
	says(t, s, "hard 1 1 1001 1", "error 11")
	says(t, s, "append 1 4 1 "+strings.Repeat("x", 41), "error 11")
	says(t, s, "hard 1 1 1 1 ; hard 1 1 1 1 ; hard 1 1 1 1 ; hard 1 1 1 1 ; hard 1 1 1 1", "error 11")
	says(t, s, "hard 1 999999999 0 999999999", "seq 5")
	says(t, s, "hardstate 1", "999999999 0 999999999")
	says(t, s, "groups", "1 999")
	says(t, s, "destroy 999 ; hard 0 0 0 0 ; hard 5 0 0 0", "seq 6")
	says(t, s, "groups", "0 1 5")
	says(t, s, "sync", "ok")
	says(t, s, "forward", "error 22")
	says(t, s, "drop", "error 22")
	says(t, s, "reclaim", "error 22")
	says(t, s, "clean 200", "ok 0")
}

// fill writes until there are n segments.
func fill(t *testing.T, s *script.Script, n int) {
	t.Helper()
	for i := 0; len(s.Store().Segments()) < n; i++ {
		if l, e := s.Do(fmt.Sprintf("hard 3 %d 0 0", i)); e != 0 || !strings.HasPrefix(l[0], "seq ") {
			t.Fatalf("%q, %v", l, e)
		}
	}
}

// P28.1: segments that go, the power, opening anew.
func TestSegments(t *testing.T) {
	s := script.New(100000, 2200)
	says(t, s, "append 1 1 1 a b ; snap 2 9 1", "seq 1")
	fill(t, s, 5)
	says(t, s, "segments", "1 2 3 4 5")
	says(t, s, "drop", "error 11")
	says(t, s, "forward", "ok 1")
	says(t, s, "forward", "ok 0")
	says(t, s, "drop", "ok 1")
	says(t, s, "reclaim", "ok 2")
	says(t, s, "segments", "3 4 5")
	says(t, s, "clean 0", "ok 0")
	says(t, s, "clean 1", "ok 1")
	says(t, s, "clean 9", "ok 1")
	says(t, s, "segments", "5")
	seq := s.Store().Seq()
	says(t, s, "sync", "ok")
	says(t, s, "hard 7 1 1 1", fmt.Sprint("seq ", seq))
	says(t, s, "crash 0", "ok")
	for _, line := range []string{"groups", "append 1 3 1 x", "sync", "limit 5", "entries 1 1 1", "clean 1", "segments", "destroy 1 ; destroy 2"} {
		says(t, s, line, "down")
	}
	if l, e := s.Do("grups"); len(l) != 0 || e != api.ErrLine || s.Store() != nil {
		t.Errorf("P28.1: no line, and down: %q, %v", l, e)
	}
	says(t, s, "crash 999999999", "ok")
	says(t, s, "open 3", "ok")
	says(t, s, "groups", "1 2 3")
	says(t, s, "entries 1 1 3", "1 1 a", "2 1 b")
	says(t, s, "hard 7 1 1 1", fmt.Sprint("seq ", seq))
	says(t, s, "crash 255", "ok")
	says(t, s, "open 0", "ok")
	says(t, s, "open 100", "ok")
	says(t, s, "groups", "1 2 3 7")
	says(t, s, "limit 1", "ok")
	says(t, s, "hard 1 1 1 1", fmt.Sprint("seq ", seq+1))
	says(t, s, "hard 1 2 2 2", "error 18")
	says(t, s, "sync", "error 18")
	says(t, s, "reclaim", "error 22")
	says(t, s, "hardstate 1", "1 1 1")
	says(t, s, "open 1", "error 18")
	says(t, s, "groups", "down")
	says(t, s, "open 1", "error 18")
	says(t, s, "crash 255", "ok")
	says(t, s, "open 1", "ok")
	says(t, s, "hardstate 1", "1 1 1")
	fill(t, s, 2)
	says(t, s, "limit 0", "ok")
	for _, line := range []string{"forward", "reclaim", "clean 3", "drop"} {
		want := "error 18"
		if line == "drop" {
			want = "error 11"
		}
		says(t, s, line, want)
	}
}

// P28.1: how much of what isn't kept stays.
func TestCrash(t *testing.T) {
	a, b := script.New(100000, 0), disk.New(100000)
	direct, _ := store.Open(b, 0, 1, nil)
	for i := range 20 {
		a.Do(fmt.Sprintf("append 4 %d 1 word", i+1))
		direct.Write([]api.Part{{Group: 4, Kind: api.KAppend, Entries: []api.Entry{{Index: i + 1, Term: 1, Data: "word"}}}})
	}
	a.Do("crash 190")
	if b.Crash(190); !slices.Equal(a.Disk().All(), b.All()) {
		t.Error("P28.1: crash 190")
	}
}

// P28.1: no room for a store.
func TestDown(t *testing.T) {
	for _, room := range []int{-5, 0, 10, 21} {
		s := script.New(room, 0)
		if s.Store() != nil || s.Disk() == nil {
			t.Errorf("P28.1: room for %d: there is a store", room)
		}
		says(t, s, "groups", "down")
		says(t, s, "open 1", "error 17")
		says(t, s, "crash 0", "ok")
		says(t, s, "append 1 1 1 a", "down")
		if l, e := s.Do("append 1 1 1"); len(l) != 0 || e != api.ErrLine {
			t.Errorf("P28.1: no line: %q, %v", l, e)
		}
	}
	s := script.New(22, 0)
	says(t, s, "append 1 1 1 a", "error 17")
	says(t, s, "groups", "")
	if s = script.New(100000, 5000); s.Store() == nil {
		t.Fatal("P28.1: down")
	}
	for s.Disk().Used() < 4900 {
		says(t, s, "hard 1 1 1 1", fmt.Sprint("seq ", s.Store().Seq()))
	}
	says(t, s, "open 1", "ok") // with the same limit
	says(t, s, "hard 1 1 1 1", fmt.Sprint("seq ", s.Store().Seq()))
	says(t, s, "segments", "1")
}

// P28.1: what is no line changes nothing.
func TestNoLine(t *testing.T) {
	s := script.New(100000, 0)
	fill(t, s, 2)
	s.Do("append 1 1 1 a b")
	before, groups := s.Disk().All(), s.Store().Ledger().Copy()
	lines := []string{
		"", " ", "  ", "x", "Sync", "SYNC", " sync", "sync ", "sync  ", "sync 1", "sync\n", "sync\t", "sync ;", "; sync", "sync ; sync", "groups ; groups", "sync ; hard 1 1 1 1", "hard 1 1 1 1 ; sync",
		"forward 1", "drop 1", "reclaim 1", "clean", "clean 1 2", "clean x", "groups 1", "segments 1", "bounds", "bounds 1 2", "term 1", "term 1 2 3", "hardstate", "hardstate 1 1", "entries 1 1", "entries 1 1 1 1", "entries",
		"limit", "limit 1 1", "limit -1", "crash", "crash -1", "crash 1 2", "crash 1000000000", "open", "open x", "open 1 2",
		"append", "append 1", "append 1 3", "append 1 3 1", "append 1 3 1 ", "append 1 3  1 a", "append 1 3 1 a  b", " append 1 3 1 a", "append 1 3 1 a ", "append 01 3 1 a", "append 1 03 1 a", "append 1 3 1x a", "append a 3 1 a", "append 1 -3 1 a", "append 1 +3 1 a", "append 1 1234567890 1 a", "append 1 3 1 ;", "append 1 3 1 a ;", "; append 1 3 1 a", "append 1 3 1 a ; ; hard 1 1 1 1", "append 1 3 1 ; hard 1 1 1 1", "append 1 3 1 a ;hard 1 1 1 1 ; x", "append 1 3 1 a ; append 1 4 1", "append 1 3 1 a ; write", ";", "; ;", "write", "write 1",
		"hard 1 1 1", "hard 1 1 1 1 1", "hard 1 1 1 1x", "hard 1 1 1 00", "hard 1 1 1 1;", "compact 1", "compact 1 1 1", "compact 1 1.", "snap 1 3", "snap 1 3 1 1", "snap 1 0x3 1", "destroy", "destroy 1 1", "destroy 1_0", "destroy ٣",
	}
	for _, line := range lines {
		if l, e := s.Do(line); len(l) != 0 || e != api.ErrLine {
			t.Errorf("P28.1: %q is no line: %q, %v", line, l, e)
		}
	}
	if !slices.Equal(before, s.Disk().All()) || !ledger.Same(groups, s.Store().Ledger()) {
		t.Error("P28.1: what is no line changes something")
	}
}

// P28.2: a script does what the calls do.
func TestAsCalls(t *testing.T) {
	r := rand.New(rand.NewSource(1))
	for range 20 {
		room, limit := 4000+r.Intn(8000), 2000+r.Intn(600)
		a, d := script.New(room, limit), disk.New(room)
		s, _ := store.Open(d, limit, 1, nil)
		for range 300 {
			g, i, term := r.Intn(4), r.Intn(12), r.Intn(4)
			var line, want string
			seq := func(l ...api.Part) {
				n, e := s.Write(l)
				want = told(e, "seq", n)
			}
			app := api.Part{Group: g, Kind: api.KAppend, Entries: []api.Entry{{Index: i, Term: term, Data: "one"}, {Index: i + 1, Term: term, Data: "two"}}}
			hard := api.Part{Group: g, Kind: api.KHard, Hard: api.Hard{Term: i, Vote: g, Commit: term}}
			switch r.Intn(12) {
			case 0, 1, 2, 3:
				line = fmt.Sprintf("append %d %d %d one two", g, i, term)
				seq(app)
			case 4:
				line = fmt.Sprintf("hard %d %d %d %d ; append %d %d %d one two ; destroy %d", g, i, g, term, g, i, term, term)
				seq(hard, app, api.Part{Group: term, Kind: api.KDestroy})
			case 5:
				line = fmt.Sprintf("compact %d %d", g, i)
				seq(api.Part{Group: g, Kind: api.KCompact, Index: i})
			case 6:
				line = fmt.Sprintf("snap %d %d %d", g, i, term)
				seq(api.Part{Group: g, Kind: api.KSnap, Index: i, Term: term})
			case 7:
				line = "sync"
				want = told(s.Sync(), "ok")
			case 8:
				line = "forward"
				n, e := s.Forward()
				want = told(e, "ok", n)
			case 9:
				line = "reclaim"
				n, e := reclaim.Once(s)
				want = told(e, "ok", n)
			case 10:
				line = fmt.Sprintf("clean %d", i)
				n, e := reclaim.Clean(s, i)
				want = told(e, "ok", n)
			case 11:
				line = fmt.Sprintf("open %d", i)
				var e api.Errno
				s, e = store.Open(d, limit, i, nil)
				want = told(e, "ok")
			}
			if got, e := a.Do(line); e != 0 || len(got) != 1 || got[0] != want {
				t.Fatalf("P28.2: %q: %q, %v, not %q", line, got, e, want)
			}
			if !slices.Equal(a.Disk().All(), d.All()) || !ledger.Same(a.Store().Ledger(), s.Ledger()) {
				t.Fatalf("P28.2: behind %q", line)
			}
		}
	}
}

func told(e api.Errno, word string, n ...int) string {
	if e != 0 {
		return fmt.Sprint("error ", int(e))
	}
	for _, k := range n {
		word += fmt.Sprint(" ", k)
	}
	return word
}
