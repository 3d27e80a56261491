package script_test

import (
	"fmt"
	"math/rand"
	"slices"
	"strconv"
	"strings"
	"testing"

	"lade/api"
	"lade/audit"
	"lade/cut"
	"lade/disk"
	"lade/group"
	"lade/head"
	"lade/ledger"
	"lade/many"
	"lade/record"
	"lade/recover"
	"lade/scan"
	"lade/script"
)

// line tells one that writes, and its parts; most of them can be done to m.
func line(r *rand.Rand, m *many.Many, groups int) (string, []api.Part) {
	var lines []string
	var parts []api.Part
	for range 1 + r.Intn(4) {
		id := r.Intn(groups)
		g, ok := m.Get(id)
		if !ok {
			g = group.New(id)
		}
		at, term := max(1, g.First-1+r.Intn(len(g.Entries)+4)), 1+r.Intn(3)
		p := api.Part{Group: id, Kind: 1 + r.Intn(5)}
		switch p.Kind {
		case api.KAppend:
			if r.Intn(2) == 0 {
				at = group.Last(g) + 1
			}
			var words []string
			for k := range 1 + r.Intn(6) {
				words = append(words, strings.Repeat("x", 1+r.Intn(40)))
				p.Entries = append(p.Entries, api.Entry{Index: at + k, Term: term, Data: words[k]})
			}
			lines = append(lines, fmt.Sprintf("append %d %d %d %s", id, at, term, strings.Join(words, " ")))
		case api.KHard:
			p.Hard = api.Hard{Term: at, Vote: term, Commit: at}
			lines = append(lines, fmt.Sprintf("hard %d %d %d %d", id, at, term, at))
		case api.KCompact:
			p.Index = at
			lines = append(lines, fmt.Sprintf("compact %d %d", id, at))
		case api.KSnap:
			p.Index, p.Term = at, term
			lines = append(lines, fmt.Sprintf("snap %d %d %d", id, at, term))
		case api.KDestroy:
			if r.Intn(3) > 0 {
				continue
			}
			lines = append(lines, fmt.Sprintf("destroy %d", id))
		}
		parts = append(parts, p)
	}
	if len(parts) == 0 {
		return line(r, m, groups)
	}
	return strings.Join(lines, " ; "), parts
}

// do does a line that is one.
func do(t *testing.T, s *script.Script, line string) string {
	t.Helper()
	l, e := s.Do(line)
	if e != 0 {
		t.Fatalf("%q: %v", line, e)
	}
	return strings.Join(l, "\n")
}

// answers tells all that a script tells of a group.
func answers(t *testing.T, s *script.Script, id int) []string {
	t.Helper()
	bounds := do(t, s, fmt.Sprint("bounds ", id))
	l := []string{bounds, do(t, s, fmt.Sprint("hardstate ", id))}
	var first, last int
	if n, _ := fmt.Sscan(bounds, &first, &last); n != 2 {
		return l
	}
	l = append(l, do(t, s, fmt.Sprintf("entries %d %d %d", id, first, last+1)))
	for i := first - 1; i <= last+1; i++ {
		l = append(l, do(t, s, fmt.Sprintf("term %d %d", id, i)))
	}
	return l
}

// own tells what of the parts is of the group.
func own(l []api.Part, id int) []api.Part {
	return slices.DeleteFunc(slices.Clone(l), func(p api.Part) bool { return p.Group != id })
}

// P40.1: whatever the size of segments, each call tells what the groups' own logs tell, which depend on their own parts alone.
func TestAnswers(t *testing.T) {
	r := rand.New(rand.NewSource(1))
	for range 8 {
		m := many.New()
		var scripts []*script.Script
		for _, limit := range []int{0, 2500, 100000} {
			scripts = append(scripts, script.New(1000000, limit))
		}
		alone := map[int]*many.Many{}
		for k := range 150 {
			text, parts := line(r, m, 4)
			want := m.Do(parts)
			for n, s := range scripts {
				got := do(t, s, text)
				if want != 0 && got != fmt.Sprint("error ", int(want)) || want == 0 && !strings.HasPrefix(got, "seq ") {
					t.Fatalf("P40.1: script %d, %q: %q, not %v", n, text, got, want)
				}
			}
			for id := range 4 {
				if p := own(parts, id); want == 0 && len(p) > 0 {
					if alone[id] == nil {
						alone[id] = many.New()
					}
					if e := alone[id].Do(p); e != 0 {
						t.Fatalf("P40.1: group %d alone: %v", id, e)
					}
				}
			}
			if k%10 > 0 {
				continue
			}
			for id := range 4 {
				first := answers(t, scripts[0], id)
				for _, s := range scripts[1:] {
					if !slices.Equal(first, answers(t, s, id)) {
						t.Fatalf("P40.1: group %d hangs on the size of segments", id)
					}
				}
				g, ok := api.Group{}, false
				if alone[id] != nil {
					g, ok = alone[id].Get(id)
				}
				got, there := scripts[0].Store().Ledger().Get(id)
				if ok != there || !group.Same(g, got) || !strings.HasPrefix(first[0], "error ") != there {
					t.Fatalf("P40.1: group %d isn't as it is alone: %v", id, first)
				}
			}
		}
	}
}

// P40.2, P40.3: at whatever step the power goes off, again and again, reclaims between: what is left is behind a number of the writes, not ahead of the last one that was synced.
func TestPower(t *testing.T) {
	r := rand.New(rand.NewSource(2))
	for steps := range 150 {
		s := script.New(30000, 2100)
		begun := many.New()
		for round := range 4 {
			s.Do(fmt.Sprint("limit ", (steps+round*37)%190))
			now, synced := begun.Copy(), 0
			var writes [][]api.Part
			for got := ""; got != "error 18" && len(writes) < 300; {
				text, parts := line(r, now, 4)
				if got = do(t, s, text); strings.HasPrefix(got, "seq ") {
					writes = append(writes, parts)
					if e := now.Do(parts); e != 0 {
						t.Fatalf("P40.2: %q: %v", text, e)
					}
				}
				if k := r.Intn(30); k < 5 && got != "error 18" {
					got = do(t, s, []string{"sync", "forward", "drop", "reclaim", "clean 2"}[k])
					if strings.HasPrefix(got, "ok") && got != "ok 0" {
						synced = len(writes)
					}
				}
			}
			for range r.Intn(3) {
				s.Do(fmt.Sprint("crash ", r.Intn(1000000000)))
				s.Do(fmt.Sprint("open ", r.Intn(5)))
				s.Do(fmt.Sprint("limit ", r.Intn(3)))
				s.Do("reclaim")
			}
			s.Do(fmt.Sprint("crash ", r.Intn(1000000000)))
			if got := do(t, s, fmt.Sprint("open ", r.Intn(5))); got != "ok" {
				t.Fatalf("P40.2: power for %d steps, round %d: %s", steps, round, got)
			}
			left := s.Store().Groups()
			k := len(writes)
			for k > synced && !many.Same(cut.After(begun, writes, k), many.Of(left)) {
				k--
			}
			if _, ok := cut.Fits(left, cut.After(begun, writes, k), nil); !ok || !audit.Store(s.Store(), s.Disk()) {
				t.Fatalf("P40.2: power for %d steps, round %d: %d writes, synced were %d", steps, round, len(writes), synced)
			}
			begun = many.Of(left)
		}
	}
}

// P40.3: a reclaim, wherever it is put in, whether it is done, fails for want of room or of power, changes nothing that is told; one that is done leaves no file that isn't in the sheet.
func TestReclaim(t *testing.T) {
	r := rand.New(rand.NewSource(3))
	ends := map[string]int{} // of reclaims
	for round := range 30 {
		m := many.New()
		s := script.New(5000+400*round, 2100)
		for range 120 {
			text, parts := line(r, m, 4)
			if strings.HasPrefix(do(t, s, text), "seq ") {
				m.Do(parts)
			}
			do(t, s, "sync")
			power := r.Intn(4) > 0
			if !power {
				do(t, s, fmt.Sprint("limit ", r.Intn(14)))
			}
			got := do(t, s, []string{"forward", "drop", "reclaim", "clean 1", "clean 9"}[r.Intn(5)])
			if got, _, _ = strings.Cut(got, " "); strings.HasPrefix(got, "error") || power {
				ends[got]++
			}
			if !slices.EqualFunc(s.Store().Groups(), m.All(), group.Same) {
				t.Fatalf("P40.3: round %d: behind %q other groups", round, got)
			}
			if !power {
				do(t, s, fmt.Sprint("crash ", r.Intn(1000000000)))
				if got := do(t, s, fmt.Sprint("open ", r.Intn(9))); got != "ok" || !slices.EqualFunc(s.Store().Groups(), m.All(), group.Same) {
					t.Fatalf("P40.3: round %d: without power, then %q: other groups", round, got)
				}
			}
			for _, f := range s.Disk().All() {
				if id, ok := head.ID(f.Name); ok && !slices.Contains(s.Store().Segments(), id) {
					t.Fatalf("P40.3: round %d: %s is left", round, f.Name)
				}
			}
			if !audit.Store(s.Store(), s.Disk()) {
				t.Fatalf("P40.3: round %d: it doesn't hold", round)
			}
		}
	}
	if ends["ok"] < 100 || ends["error"] < 100 {
		t.Errorf("P40.3: reclaims ended so: %v", ends)
	}
}

// P40.3: where the power went off and is on again, one that is done leaves no file that isn't in the sheet, either.
func TestReclaimAgain(t *testing.T) {
	broken := 0
	for n := range 80 {
		for _, cut := range []string{"reclaim", "append 5 1 1 " + strings.Repeat("x", 40)} {
			s := script.New(1000000, 2100)
			for i := 0; len(s.Store().Segments()) < 4; i++ {
				do(t, s, fmt.Sprintf("append 1 1 1 %d ; hard %d 1 1 1", i, i))
			}
			do(t, s, fmt.Sprint("limit ", n))
			for range 60 { // until a segment is to be begun
				if do(t, s, cut) == "error 18" {
					broken++
					break
				}
			}
			do(t, s, "limit 999999999")
			groups := do(t, s, "groups")
			if got := do(t, s, "reclaim"); !strings.HasPrefix(got, "ok ") {
				t.Fatalf("P40.3: power for %d steps, %q, then: %s", n, cut, got)
			}
			for _, f := range s.Disk().All() {
				if id, ok := head.ID(f.Name); ok && !slices.Contains(s.Store().Segments(), id) {
					t.Errorf("P40.3: power for %d steps, %q: %s is left", n, cut, f.Name)
				}
			}
			if groups != do(t, s, "groups") || !audit.Store(s.Store(), s.Disk()) {
				t.Errorf("P40.3: power for %d steps, %q: it doesn't hold", n, cut)
			}
		}
	}
	if broken < 30 {
		t.Errorf("P40.3: %d were broken off", broken)
	}
}

// P40.4: however many shards replay a disk, in whatever order of steps.
func TestShards(t *testing.T) {
	r := rand.New(rand.NewSource(4))
	s, m := script.New(1000000, 2100), many.New()
	for range 200 {
		text, parts := line(r, m, 12)
		do(t, s, text)
		if m.Do(parts); r.Intn(9) == 0 {
			do(t, s, "reclaim")
		}
	}
	for n := range 70 {
		schedule := make([]uint8, r.Intn(300))
		r.Read(schedule)
		state, e := recover.Look(s.Disk(), n, schedule)
		if e != 0 || !ledger.Same(state.Ledger(), s.Store().Ledger()) || state.Seq() != s.Store().Seq() {
			t.Fatalf("P40.4: %d shards: %v", n, e)
		}
		if n%10 == 0 {
			do(t, s, fmt.Sprint("open ", n))
		}
	}
}

// P40.5: bits that are flipped within 32 in a row in a record are seen.
func TestDamage(t *testing.T) {
	r := rand.New(rand.NewSource(5))
	s, m := script.New(1000000, 2100), many.New()
	for len(s.Store().Segments()) < 3 || s.Disk().Used() < 7500 {
		text, parts := line(r, m, 4)
		do(t, s, text)
		m.Do(parts)
	}
	segments := s.Store().Segments()
	for _, id := range segments {
		b, _ := s.Disk().Read(head.Name(id))
		all, _, _ := scan.All(b, id)
		for k, f := range all {
			for range 20 {
				size := 8 * record.Size(f.R)
				at := r.Intn(size)
				spoilt := []byte(b)
				for i := at; i < min(at+32, size); i++ {
					if i == at || r.Intn(2) == 0 {
						spoilt[f.Place.At+i/8] ^= 1 << (i % 8)
					}
				}
				files := s.Disk().All()
				for i := range files {
					if files[i].Name == head.Name(id) {
						files[i].B = string(spoilt)
					}
				}
				found, _, class := scan.All(string(spoilt), id)
				if len(found) != k || class != api.Torn && class != api.Bad {
					t.Fatalf("P40.5: segment %d, record %d, bit %d: %d records, class %d", id, k, at, len(found), class)
				}
				state, e := recover.Look(disk.Of(1000000, files), 1, nil)
				last := id == segments[len(segments)-1]
				if !last && e != api.ErrCorrupt || last && (e != 0 || state.Seq() != f.R.Seq) {
					t.Fatalf("P40.5: segment %d, record %d, bit %d: %v", id, k, at, e)
				}
			}
		}
	}
}

// P40.6: never more bytes than there is room for; what is refused for that changes nothing.
func TestRoom(t *testing.T) {
	r := rand.New(rand.NewSource(6))
	full := 0
	for room := 22; room < 9000; room += 97 {
		s, m := script.New(room, 2100), many.New()
		for range 120 {
			text, parts := line(r, m, 4)
			before := s.Store().Ledger().Copy()
			switch got := do(t, s, text); {
			case got == "error 17":
				if full++; !ledger.Same(before, s.Store().Ledger()) {
					t.Fatalf("P40.6: room for %d: what is refused changes something", room)
				}
			case strings.HasPrefix(got, "seq "):
				m.Do(parts)
			}
			if r.Intn(9) == 0 {
				do(t, s, []string{"forward", "reclaim", "clean 9", "open 2"}[r.Intn(4)])
			}
			if s.Disk().Used() > room || !slices.EqualFunc(s.Store().Groups(), m.All(), group.Same) {
				t.Fatalf("P40.6: room for %d: %d bytes", room, s.Disk().Used())
			}
		}
	}
	if full < 100 {
		t.Errorf("P40.6: %d times there was no room", full)
	}
}

// P40.7: whatever is handed over: each line comes back, with an error of its chapter or none.
func TestTotal(t *testing.T) {
	r := rand.New(rand.NewSource(7))
	words := []string{"append", "hard", "compact", "snap", "destroy", "sync", "forward", "drop", "reclaim", "clean", "entries", "bounds", "term", "hardstate", "groups", "segments", "limit", "crash", "open", ";", "", "0", "1", "2", "3", "999", "1000", "999999999", "1000000000", "-1", "x", "\x00", "é", "00"}
	s := script.New(5000, 0)
	lines := 0
	for range 60000 {
		var l []string
		for range r.Intn(8) {
			l = append(l, words[r.Intn(len(words))])
		}
		if r.Intn(2) == 0 && len(l) > 1 { // more that are lines
			for i := 1; i < len(l); i++ {
				l[i] = strconv.Itoa(r.Intn(4))
			}
		}
		got, e := s.Do(strings.Join(l, " "))
		if e != 0 && (e != api.ErrLine || len(got) != 0) {
			t.Fatalf("P40.7: %q: %q, %v", l, got, e)
		}
		if e == 0 {
			lines++
		}
		if s.Store() == nil {
			s.Do("crash 7")
			s.Do("open 2")
		}
	}
	if lines < 1000 {
		t.Errorf("P40.7: %d were lines", lines)
	}
}
