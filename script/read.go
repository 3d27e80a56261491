package script

import (
	"iter"
	"strconv"
	"strings"

	"lade/api"
)

const (
	between   = ";" // joins parts
	maxDigits = 9
)

// command that a line tells: a write of parts, or what has a name and numbers.
type command struct {
	name    string
	numbers []int
	parts   []api.Part
}

// read tells the command of a line.
func read(line string) (command, bool) {
	joined, ok := clauses(line)
	if !ok {
		return command{}, false
	}
	if n := joined[0]; len(joined) == 1 && len(n) > 0 && count(n[0]) >= 0 {
		numbers, ok := numbersOf(n[1:], count(n[0]))
		return command{name: n[0], numbers: numbers}, ok
	}
	c := command{name: "write"}
	for _, words := range joined {
		p, ok := readPart(words)
		if !ok {
			return command{}, false
		}
		c.parts = append(c.parts, p)
	}
	return c, true
}

// clauses tells the words of each of the parts that are joined in the line.
func clauses(line string) ([][]string, bool) {
	joined, ok := [][]string{nil}, true
reading:
	for word := range words(line) {
		last := len(joined) - 1
		switch word {
		case "": // there is a blank too many
			ok = false
			break reading
		case between:
			joined = append(joined, nil)
		default:
			joined[last] = append(joined[last], word)
		}
	}
	return joined, ok
}

// words yields what stands between the blanks of the line.
func words(line string) iter.Seq[string] {
	return func(yield func(string) bool) {
		for left, more := line, true; more; {
			var word string
			word, left, more = strings.Cut(left, " ")
			if !yield(word) {
				return
			}
		}
	}
}

// count tells how many numbers a command of that name has; -1, if there is none.
func count(name string) int {
	switch name {
	case "sync", "forward", "drop", "reclaim", "groups", "segments":
		return 0
	case "clean", "bounds", "hardstate", "limit", "crash", "open":
		return 1
	case "term":
		return 2
	case "entries":
		return 3
	}
	return -1
}

// readPart tells the part of such words.
func readPart(words []string) (api.Part, bool) {
	if len(words) == 0 {
		return api.Part{}, false
	}
	name, rest := words[0], words[1:]
	if name == "append" {
		return readAppend(rest)
	}
	n, ok := numbersOf(rest, partCount(name))
	if !ok {
		return api.Part{}, false
	}
	p := api.Part{Group: n[0]}
	switch name {
	case "hard":
		p.Kind, p.Hard = api.KHard, api.Hard{Term: n[1], Vote: n[2], Commit: n[3]}
	case "compact":
		p.Kind, p.Index = api.KCompact, n[1]
	case "snap":
		p.Kind, p.Index, p.Term = api.KSnap, n[1], n[2]
	case "destroy":
		p.Kind = api.KDestroy
	}
	return p, true
}

// partCount tells how many numbers a part of that name has; -1, if there is none that has numbers alone.
func partCount(name string) int {
	switch name {
	case "hard":
		return 4
	case "compact":
		return 2
	case "snap":
		return 3
	case "destroy":
		return 1
	}
	return -1
}

// readAppend tells the part that appends: three numbers, and a word for each entry.
func readAppend(words []string) (api.Part, bool) {
	if len(words) < 4 {
		return api.Part{}, false
	}
	n, ok := numbersOf(words[:3], 3)
	if !ok {
		return api.Part{}, false
	}
	p := api.Part{Group: n[0], Kind: api.KAppend}
	for i, word := range words[3:] {
		p.Entries = append(p.Entries, api.Entry{Index: n[1] + i, Term: n[2], Data: word})
	}
	return p, true
}

// numbersOf tells the numbers that the words are, just so many.
func numbersOf(words []string, want int) ([]int, bool) {
	if len(words) != want {
		return nil, false
	}
	var l []int
	for _, word := range words {
		n, ok := number(word)
		if !ok {
			return nil, false
		}
		l = append(l, n)
	}
	return l, true
}

// number tells the number of a word of digits alone; no nought is ahead of another digit.
func number(word string) (int, bool) {
	n, e := strconv.Atoi(word)
	if e != nil || len(word) > maxDigits || strconv.Itoa(n) != word || n < 0 {
		return 0, false
	}
	return n, true
}
