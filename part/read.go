package part

import (
	"iter"
	"slices"

	"lade/api"
	"lade/code"
)

// reader goes along s; from its first error on it stands still and tells zeros.
type reader struct {
	s  string
	at int
	e  api.Errno
}

// Read tells the part at the beginning of s, and of how many bytes it is.
func Read(s string) (api.Part, int, api.Errno) {
	r := &reader{s: s}
	p := api.Part{Group: r.number()}
	p.Kind = r.numberTo(api.KForward)
	switch p.Kind {
	case api.KAppend:
		n := r.numberTo(api.MaxEntries)
		first := r.number()
		p.Entries = slices.Collect(r.entries(n, func(i int) int { return first + i }))
	case api.KHard:
		p.Hard = r.hard()
	case api.KCompact, api.KSnap:
		p.Index, p.Term = r.number(), r.number()
	case api.KForward:
		r.forward(&p)
	}
	if r.e == api.OK && !Is(p) { // so no Kind is 0, either: nothing is read behind it
		r.e = api.ErrForm
	}
	if r.e != api.OK {
		return api.Part{}, 0, r.e
	}
	return p, r.at, api.OK
}

// forward reads what a KForward has.
func (r *reader) forward(p *api.Part) {
	flag := r.numberTo(flags - 1)
	if p.Mark = flag&hasMark != 0; p.Mark {
		p.Index, p.Term = r.number(), r.number()
	}
	if p.Head = flag&hasHead != 0; p.Head {
		p.Hard = r.hard()
	}
	n := r.numberTo(api.MaxEntries)
	p.Entries = slices.Collect(r.entries(n, func(int) int { return r.number() }))
}

// entries yields n entries as they stand there, each with the Index that index tells, up to an error.
func (r *reader) entries(n int, index func(i int) int) iter.Seq[api.Entry] {
	return func(yield func(api.Entry) bool) {
		for i := range n {
			e := api.Entry{Index: index(i)}
			e.Term = r.number()
			e.Data = r.text()
			if r.e != api.OK || !yield(e) {
				return
			}
		}
	}
}

func (r *reader) hard() api.Hard {
	h := api.Hard{Term: r.number()}
	h.Vote = r.number()
	h.Commit = r.number()
	return h
}

func (r *reader) number() int {
	if r.e != api.OK {
		return 0
	}
	n, k, e := code.Get(r.s[r.at:])
	r.at, r.e = r.at+k, e
	return n
}

// numberTo reads a number that may be no more than most.
func (r *reader) numberTo(most int) int {
	n := r.number()
	if n > most {
		r.e = api.ErrForm
		return 0
	}
	return n
}

func (r *reader) text() string {
	if r.e != api.OK {
		return ""
	}
	s, k, e := code.Texts(r.s[r.at:], api.MaxData)
	r.at, r.e = r.at+k, e
	return s
}
