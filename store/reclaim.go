package store

import (
	"iter"

	"lade/api"
	"lade/forward"
	"lade/live"
	"lade/victim"
)

// Forward writes anew what still counts in the segment that goes, and tells in how many records.
func (s *Store) Forward() (int, api.Errno) {
	oldest, there := victim.Pick(s.Segments())
	if !there {
		return 0, api.ErrNone
	}
	if e := s.Sync(); e != api.OK {
		return 0, e
	}
	n := 0
	for r := range s.anew(oldest) {
		if e := s.write(r); e != api.OK {
			return 0, e
		}
		n++
	}
	if e := s.Sync(); e != api.OK {
		return 0, e
	}
	return n, api.OK
}

// Drop takes away the segment that goes, in which nothing counts any more. What took its place is kept first.
func (s *Store) Drop() (int, api.Errno) {
	oldest, there := victim.Pick(s.Segments())
	if !there {
		return 0, api.ErrNone
	}
	if live.Count(s.ledger.Spots(), oldest) > 0 {
		return 0, api.ErrForm
	}
	if e := s.Sync(); e != api.OK {
		return 0, e
	}
	return s.w.Drop()
}

// anew yields the records that bring what lies in the segment now.
func (s *Store) anew(segment int) iter.Seq[api.Record] {
	return func(yield func(api.Record) bool) {
		parts := forward.Parts(s.Groups(), s.ledger.Spots(), segment)
		for _, r := range forward.Records(parts, s.seq) {
			if !yield(r) {
				return
			}
		}
	}
}
