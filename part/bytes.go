package part

import (
	"iter"
	"strings"

	"lade/api"
	"lade/code"
)

// What a KForward has, as it stands in its bytes: one number, added up.
const (
	hasMark = 1 << iota
	hasHead
	flags // one past all of them
)

// Bytes tells the bytes of p.
func Bytes(p api.Part) (string, api.Errno) {
	if !Is(p) {
		return "", api.ErrForm
	}
	b := &strings.Builder{}
	puts(b, p.Group, p.Kind)
	switch p.Kind {
	case api.KAppend:
		puts(b, len(p.Entries), p.Entries[0].Index)
	case api.KHard:
		putHard(b, p.Hard)
	case api.KCompact, api.KSnap:
		puts(b, p.Index, p.Term)
	case api.KForward:
		putForward(b, p)
	}
	for text := range texts(p) {
		b.WriteString(text)
	}
	return b.String(), api.OK
}

func puts(b *strings.Builder, numbers ...int) {
	for _, n := range numbers {
		b.WriteString(code.Put(n))
	}
}

func putHard(b *strings.Builder, h api.Hard) { puts(b, h.Term, h.Vote, h.Commit) }

// putForward puts what a KForward has ahead of its entries.
func putForward(b *strings.Builder, p api.Part) {
	flag := 0
	if p.Mark {
		flag += hasMark
	}
	if p.Head {
		flag += hasHead
	}
	puts(b, flag)
	if p.Mark {
		puts(b, p.Index, p.Term)
	}
	if p.Head {
		putHard(b, p.Hard)
	}
	puts(b, len(p.Entries))
}

// texts yields the bytes of each of p's entries: in a KAppend their Indexes are one behind the other, and the first one's is told ahead.
func texts(p api.Part) iter.Seq[string] {
	return func(yield func(string) bool) {
		for _, e := range p.Entries {
			text := code.Put(e.Term) + code.Text(e.Data)
			if p.Kind == api.KForward {
				text = code.Put(e.Index) + text
			}
			if !yield(text) {
				return
			}
		}
	}
}
